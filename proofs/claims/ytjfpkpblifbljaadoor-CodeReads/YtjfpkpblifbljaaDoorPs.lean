/- A word read, a number told: the kinds' methods. -/
import Derived.Test.YtjfpkpblifbljaaDoorNb
namespace Go.Proofs.YtjfpkpblifbljaaDoor
open Go.ChangeShapes Go.WideShapes Go.ChangeAt Go.RowKit
set_option linter.unusedVariables false
set_option linter.unusedSimpArgs false

/-- A text with its letters great. -/
def up (t : ByteArray) : ByteArray := ⟨(txt ((nums t).map uz)).toArray⟩
theorem up_size (t : ByteArray) : (up t).size = t.size := by
  show (txt ((nums t).map uz)).toArray.size = t.size
  rw [List.size_toArray, txt_len, List.length_map, nums_len]

theorem digF_len (ps : Own4) (pre t l : List UInt8) (hp : ∀ p ∈ ps, p.2 < 65536) (h : digF ps pre t = some l) : l.length ≤ t.length + 5 := by
  unfold digF at h
  split at h
  · rename_i p hf
    have := dec_len p.2 (by have := hp p (List.mem_of_find?_eq_some hf); omega)
    cases h
    omega
  · split at h
    · cases h
      simp
      omega
    · cases h
set_option maxRecDepth 100000 in
set_option maxHeartbeats 1000000 in
theorem parse_any (s pre : ByteArray) (most : Nat) (hm : most < 65536) (ps : Own4) (t : ByteArray) (ht : t.size ≤ 140737488355000) (w : World) (hK : KOk s ps) (hL : LayT w) (hE : LayE w) :
    Calls Tryd.prog 29 #[.agg #[.string s, .string pre, .int .i64 most], .string t] w fun e w' => ∃ x y, e = .returned (.tuple #[.int .i64 x, .int .i64 y]) ∧ Hid (Res (readF ps pre.data.toList (most + 1) (up t).data.toList) x y) ∧ Hid (Below w.heap.size w w') := by
  have HL : Hid (LayT w ∧ LayE w) := ⟨hL, hE⟩
  have HK : Hid (KOk s ps) := hK
  have HX : Hid (Box (w.alloc (.cells #[.string s, .string pre, .int .i64 most] 51)) w.heap.size s pre most) := Box.new w s pre most
  have HB : Hid (Below w.heap.size w (w.alloc (.cells #[.string s, .string pre, .int .i64 most] 51))) := (Below.refl _ _).alloc (Nat.le_refl _) _
  clear hL hK hE
  go_enter Tryd.func29, Tryd.ntmps29
  go_wp2_with fail
  generalize (w.alloc (.cells #[.string s, .string pre, .int .i64 most] 51)) = W1 at *
  have HLd : Hid (LayT W1.drew ∧ LayE W1.drew) := ⟨HL.out.1.below HB.out.drew, HL.out.2.below HB.out.drew⟩
  have HBd : Hid (Below w.heap.size w W1.drew ∧ w.heap.size ≤ W1.drew.heap.size) := ⟨HB.out.drew, HB.out.size⟩
  have c0 := HX.out.1
  have c1 := HX.out.2.1
  have c2 := HX.out.2.2.1
  have hbl := HX.out.2.2.2
  have HG : Hid (∀ w', Below w.heap.size w w' → w.heap.size = w.heap.size) := fun _ _ => rfl
  have KG : Hid (∀ W, Calls Tryd.prog 47 #[.string t] W fun e w' => e = .returned (.string (up t)) ∧ Hid (Below W.heap.size W w')) := fun W => great_any t W (by omega)
  have KD : Hid (∀ W, LayT W → Calls Tryd.prog 46 #[.agg #[.string s, .string pre, .int .i64 most], .string (up t)] W fun e w' => ∃ (l : List UInt8) (b : Bool), e = .returned (.tuple #[.string ⟨l.toArray⟩, .bool b]) ∧ Hid (digF ps pre.data.toList (up t).data.toList = if b then some l else none) ∧ Hid (Below W.heap.size W w')) := fun W h => digits_any s pre most ps (up t) W HK.out h
  clear HL HB HX HG
  obtain ⟨b, hb⟩ : ∃ b, b = w.heap.size := ⟨_, rfl⟩
  rw [← hb] at c0 c1 c2 hbl HBd ⊢
  have Hb : Hid (b = w.heap.size) := hb
  clear hb
  go_region_held3 (fun W => W.cell? ⟨b, 0, none⟩ = some (.string s) ∧ W.cell? ⟨b, 1, none⟩ = some (.string pre) ∧ W.cell? ⟨b, 2, none⟩ = some (.int .i64 most)) (go_keep) (first
    | (go_at_call 47; refine (KG.out _).mono ?_; rintro e W2 ⟨rfl, H2⟩; have d0 : W2.cell? ⟨b, 0, none⟩ = some (.string s) := (H2.out.cell (p := ⟨b, 0, none⟩) hbl).trans c0; have d1 : W2.cell? ⟨b, 1, none⟩ = some (.string pre) := (H2.out.cell (p := ⟨b, 1, none⟩) hbl).trans c1; have d2 : W2.cell? ⟨b, 2, none⟩ = some (.int .i64 most) := (H2.out.cell (p := ⟨b, 2, none⟩) hbl).trans c2; have HL2 : Hid (LayT W2 ∧ LayE W2) := ⟨HLd.out.1.below H2.out, HLd.out.2.below H2.out⟩; have HB2 : Hid (Below b w W2 ∧ b < W2.heap.size) := ⟨HBd.out.1.trans (H2.out.mono HBd.out.2), Nat.lt_of_lt_of_le hbl H2.out.size⟩; clear H2)
    | (go_at_call 46; refine (KD.out _ HL2.out.1).mono ?_; rintro e W3 ⟨l, q, rfl, HD, H3⟩; have e0 : W3.cell? ⟨b, 0, none⟩ = some (.string s) := (H3.out.cell (p := ⟨b, 0, none⟩) HB2.out.2).trans d0; have e1 : W3.cell? ⟨b, 1, none⟩ = some (.string pre) := (H3.out.cell (p := ⟨b, 1, none⟩) HB2.out.2).trans d1; have e2 : W3.cell? ⟨b, 2, none⟩ = some (.int .i64 most) := (H3.out.cell (p := ⟨b, 2, none⟩) HB2.out.2).trans d2; have HL3 : Hid (LayT W3 ∧ LayE W3) := ⟨HL2.out.1.below H3.out, HL2.out.2.below H3.out⟩; have HB3 : Hid (Below b w W3) := HB2.out.1.trans (H3.out.mono (Nat.le_of_lt HB2.out.2))))
  clear c0 c1 c2 d0 d1 d2 HLd HBd KG KD HL2 HB2 H3 hbl
  cases q with
  | false =>
    go_wp2_with fail
    go_ret2
    refine ⟨_, _, rfl, Res.no ?_, by rw [← Hb.out]; exact HB3.out⟩
    unfold readF
    rw [HD.out]
    rfl
  | true =>
    have hd : digF ps pre.data.toList (up t).data.toList = some l := HD.out
    have hl : (⟨l.toArray⟩ : ByteArray).size ≤ 140737488355328 := by
      have := digF_len ps pre.data.toList (up t).data.toList l HK.out.2.2.2.2 hd
      have e1 : (up t).data.toList.length = t.size := (Lib.size_eq _).symm.trans (up_size t)
      show l.toArray.size ≤ _
      rw [List.size_toArray]
      omega
    have HR : Hid (readF ps pre.data.toList (most + 1) (up t).data.toList = numF l (most + 1)) := by
      show readF _ _ _ _ = _
      unfold readF; rw [hd]; rfl
    clear HD hd
    go_wp2_with fail
    refine (number_any s pre most hm ⟨l.toArray⟩ hl W3 HL3.out.1 HL3.out.2).mono ?_
    rintro e W4 ⟨x, y, rfl, HQ, H4⟩
    clear e0 e1 e2
    go_wp2_with fail
    go_ret2
    exact ⟨_, _, rfl, by rw [HR.out]; exact HQ.out, by rw [← Hb.out]; exact HB3.out.trans (H4.out.mono (by rw [Hb.out]; rw [Hb.out] at HB3; exact HB3.out.size))⟩
end Go.Proofs.YtjfpkpblifbljaaDoor
