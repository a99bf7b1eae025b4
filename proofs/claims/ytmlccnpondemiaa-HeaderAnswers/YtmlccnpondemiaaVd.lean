/- header.Bytes. -/
import Derived.Test.YtmlccnpondemiaaVc
namespace Go.Proofs.Ytmlccnpondemiaa
open Go.ChangeShapes Go.WideShapes Go.ChangeAt Go.RowKit
set_option linter.unusedVariables false
set_option linter.unusedSimpArgs false

def nsL (id F c0 c1 c2 c3 : Int) : List Int := [id, F, c0, c1, c2, c3]
def b16 (m : Int) : List Int := [m / 256, m % 256]
def b16s (l : List Int) : List Int := l.flatMap b16
def okN (m : Int) : Prop := 0 ≤ m ∧ m ≤ 65535
theorem b16s_len (l : List Int) : (b16s l).length = 2 * l.length := by
  induction l with
  | nil => rfl
  | cons x r ih => simp only [b16s, List.flatMap_cons, List.length_append, List.length_cons] at ih ⊢; rw [ih]; simp [b16]; omega
theorem b16s_take (l : List Int) (k : Nat) (m : Int) (h : l[k]? = some m) : b16s (l.take (k + 1)) = b16s (l.take k) ++ [m / 256, m % 256] := by
  rw [List.take_add_one, h]
  simp [b16s, b16]
theorem ixN (id F c0 c1 c2 c3 : Int) (k : Nat) (hk : k < 6) : ∃ m, (nsL id F c0 c1 c2 c3)[k]? = some m ∧ ∀ w : World, (Instr.index 56 (.agg #[.int .i64 id, .int .i64 F, .int .i64 c0, .int .i64 c1, .int .i64 c2, .int .i64 c3]) (.int .i64 (k : Int))).run Try.prog w = .ok (.int .i64 m) w := by
  match k, hk with
  | 0, _ => exact ⟨id, rfl, fun w => by kernel_rfl⟩
  | 1, _ => exact ⟨F, rfl, fun w => by kernel_rfl⟩
  | 2, _ => exact ⟨c0, rfl, fun w => by kernel_rfl⟩
  | 3, _ => exact ⟨c1, rfl, fun w => by kernel_rfl⟩
  | 4, _ => exact ⟨c2, rfl, fun w => by kernel_rfl⟩
  | 5, _ => exact ⟨c3, rfl, fun w => by kernel_rfl⟩
  | k + 6, h => omega
theorem make12 (w : World) : (Instr.makeSlice 30 (.int .i64 0) (.int .i64 12)).run Try.prog w = .ok (.slice (some ⟨w.heap.size, 0, none⟩) 0 12) (w.alloc (.cells #[.int .u8 0, .int .u8 0, .int .u8 0, .int .u8 0, .int .u8 0, .int .u8 0, .int .u8 0, .int .u8 0, .int .u8 0, .int .u8 0, .int .u8 0, .int .u8 0] 5)) := by kernel_rfl
theorem alloc_at (w : World) (o : Obj) : (w.alloc o).heap[w.heap.size]? = some o := by
  show (w.heap.push o)[w.heap.size]? = some o
  simp
theorem make12_own (w : World) (B : Nat) (hB : B ≤ w.heap.size) : Own B (w.alloc (.cells #[.int .u8 0, .int .u8 0, .int .u8 0, .int .u8 0, .int .u8 0, .int .u8 0, .int .u8 0, .int .u8 0, .int .u8 0, .int .u8 0, .int .u8 0, .int .u8 0] 5)) (.slice (some ⟨w.heap.size, 0, none⟩) 0 12) 0 (List.replicate 12 0) := by
  refine .inr ⟨w.heap.size, rfl, hB, ⟨?_, ?_⟩, by simp, by simp [maxLen]⟩
  · rw [alloc_at]; rfl
  · intro z hz; rw [List.mem_replicate] at hz; obtain ⟨_, rfl⟩ := hz; omega
theorem two_rd (w : World) (m : Int) (h : okN m) : Rd (w.alloc (.cells #[.int .u8 (m / 256), .int .u8 (m % 256)] 5)) (some ⟨w.heap.size, 0, none⟩) [m / 256, m % 256] := by
  have hb : Blk (w.alloc (.cells #[.int .u8 (m / 256), .int .u8 (m % 256)] 5)) w.heap.size [m / 256, m % 256] := ⟨alloc_at _ _, by
    intro z hz
    simp only [List.mem_cons, List.not_mem_nil, or_false] at hz
    obtain ⟨h0, h1⟩ := h
    rcases hz with rfl | rfl <;> omega⟩
  exact hb.rd 2

/-- What Bytes answers, the flags' number being F. -/
def BtPost (w : World) (ns : List Int) (e : Ending) (w' : World) : Prop :=
  ((∀ m ∈ ns, okN m) → ∃ g, e = .returned (.tuple #[.slice (some ⟨g, 0, none⟩) 12 12, .int .i64 0]) ∧ w.heap.size ≤ g ∧ Blk w' g (b16s ns)) ∧
  ((¬ ∀ m ∈ ns, okN m) → e = .returned (.tuple #[.slice none 0 0, .int .i64 2])) ∧ Below w.heap.size w w'

set_option maxHeartbeats 1000000 in
theorem bytes10_arg (id : Int) (rs : Bool) (op : Int) (aa tc rd ra ad cd : Bool) (rc : Int) (a1 a2 a3 a4 : Option Addr) (n1 n2 n3 n4 k1 k2 k3 k4 : Nat) (c0 c1 c2 c3 : Int) (w : World)
    (h : ¬ (0 ≤ op ∧ op ≤ 15 ∧ 0 ≤ rc ∧ rc ≤ 15)) :
    Calls Try.prog 10 #[.agg #[.int .u16 id, .bool rs, .int .i64 op, .bool aa, .bool tc, .bool rd, .bool ra, .bool ad, .bool cd, .int .i64 rc, .slice a1 n1 k1, .slice a2 n2 k2, .slice a3 n3 k3, .slice a4 n4 k4], .agg #[.int .i64 c0, .int .i64 c1, .int .i64 c2, .int .i64 c3]] w fun e w' => e = .returned (.tuple #[.slice none 0 0, .int .i64 2]) ∧ Below w.heap.size w w' := by
  have H : Hid (op < 0 ∨ (0 ≤ op ∧ 15 < op) ∨ (0 ≤ op ∧ op ≤ 15 ∧ rc < 0) ∨ (0 ≤ op ∧ op ≤ 15 ∧ 0 ≤ rc ∧ 15 < rc)) := by show _ ∨ _; omega
  clear h
  go_enter Try.func10, Try.ntmps10
  go_wp2_with fail
  refine (pack_no id rs op aa tc rd ra ad cd rc a1 a2 a3 a4 n1 n2 n3 n4 k1 k2 k3 k4 _ H.out).mono ?_
  rintro e w1 ⟨rfl, hb1⟩
  go_wp2
  go_ret2
  exact ⟨rfl, (((Below.refl _ _).alloc (Nat.le_refl _) _).alloc (by simp) _).trans (hb1.mono (by simp; omega))⟩

set_option maxHeartbeats 1000000 in
theorem bytes10 (id : Nat) (rs : Bool) (op : Nat) (aa tc rd ra ad cd : Bool) (rc : Nat) (a1 a2 a3 a4 : Option Addr) (n1 n2 n3 n4 k1 k2 k3 k4 : Nat) (c0 c1 c2 c3 : Int) (w : World)
    (hi : id < 65536) (ho : op < 16) (hr : rc < 16) :
    Calls Try.prog 10 #[.agg #[.int .u16 (id : Int), .bool rs, .int .i64 (op : Int), .bool aa, .bool tc, .bool rd, .bool ra, .bool ad, .bool cd, .int .i64 (rc : Int), .slice a1 n1 k1, .slice a2 n2 k2, .slice a3 n3 k3, .slice a4 n4 k4], .agg #[.int .i64 c0, .int .i64 c1, .int .i64 c2, .int .i64 c3]] w fun e w' => BtPost w (nsL id (packN op rc rs aa tc rd ra ad cd : Nat) c0 c1 c2 c3) e w' := by
  have hP := packN_lt ho hr rs aa tc rd ra ad cd
  have KP := fun w' => pack_ok id rs op aa tc rd ra ad cd rc a1 a2 a3 a4 n1 n2 n3 n4 k1 k2 k3 k4 w' ho hr
  generalize packN op rc rs aa tc rd ra ad cd = F at *
  obtain ⟨ns, hns⟩ : ∃ ns, ns = nsL id F c0 c1 c2 c3 := ⟨_, rfl⟩
  have IX := fun k hk => ixN id F c0 c1 c2 c3 k hk
  rw [← hns] at IX ⊢
  have HNL : Hid (ns.length = 6) := by rw [hns]; rfl
  clear hns
  have KP' : ∀ w', Hid (Calls Try.prog 24 _ w' _) := KP
  clear KP
  have hmk := make12
  go_enter Try.func10, Try.ntmps10
  go_wp2_with fail
  refine (KP' _).out.mono ?_
  rintro e w1 ⟨rfl, hb1⟩
  have HB1 : Hid (Below w.heap.size w w1 ∧ w.heap.size + 1 + 1 ≤ w1.heap.size) := ⟨(((Below.refl _ _).alloc (Nat.le_refl _) _).alloc (by simp) _).trans (hb1.mono (by simp; omega)), by have := hb1.size; simpa using this⟩
  have hlt : w.heap.size < w1.heap.size := by have := HB1.out.2; omega
  have hlt2 : w.heap.size + 1 < w1.heap.size := by have := HB1.out.2; omega
  have m0 : w1.cell? ⟨w.heap.size, 0, none⟩ = some (.int .u16 id) := (hb1.cell (p := ⟨w.heap.size, 0, none⟩) (by simp; omega)).trans (by simp)
  have g0 : w1.cell? ⟨w.heap.size + 1, 0, none⟩ = some (.int .i64 c0) := (hb1.cell (p := ⟨w.heap.size + 1, 0, none⟩) (by simp)).trans (by simp)
  have g1 : w1.cell? ⟨w.heap.size + 1, 1, none⟩ = some (.int .i64 c1) := (hb1.cell (p := ⟨w.heap.size + 1, 1, none⟩) (by simp)).trans (by simp)
  have g2 : w1.cell? ⟨w.heap.size + 1, 2, none⟩ = some (.int .i64 c2) := (hb1.cell (p := ⟨w.heap.size + 1, 2, none⟩) (by simp)).trans (by simp)
  have g3 : w1.cell? ⟨w.heap.size + 1, 3, none⟩ = some (.int .i64 c3) := (hb1.cell (p := ⟨w.heap.size + 1, 3, none⟩) (by simp)).trans (by simp)
  clear hb1
  go_wp2_with fail
  refine (together_any id F c0 c1 c2 c3 _).mono ?_
  rintro e w2 ⟨rfl, hb2⟩
  have HS2 : Hid (Own w1.heap.size w2 (.slice (some ⟨w1.heap.size, 0, none⟩) 0 12) 0 (List.replicate 12 0) ∧ Below w.heap.size w w2 ∧ w.heap.size ≤ w1.heap.size ∧ w1.heap.size ≤ w2.heap.size) := ⟨(make12_own w1 _ (Nat.le_refl _)).below hb2, (HB1.out.1.alloc HB1.out.1.size _).trans (hb2.mono (by have := HB1.out.1.size; simp; omega)), HB1.out.1.size, by have := hb2.size; simp at this; omega⟩
  clear hb2 m0 g0 g1 g2 g3
  go_wp2_with fail
  go_loopw [8, 28] (fun v y wr => ∃ k : Nat, k ≤ 6 ∧ y = .int .i64 (k : Int) ∧ Hid (∃ zs, Own w1.heap.size wr v (2 * k) zs ∧ zs.length = 12 ∧ zs.take (2 * k) = b16s (ns.take k)) ∧ Hid (∀ m ∈ ns.take k, okN m) ∧ Hid (Below w.heap.size w wr ∧ w1.heap.size ≤ wr.heap.size)) (fun _ y _ => 6 - (intOf y).toNat)
  case atStart => exact ⟨0, by omega, rfl, ⟨_, HS2.out.1, by simp, rfl⟩, by intro m hm; simp at hm, HS2.out.2.1, HS2.out.2.2.2⟩
  case round =>
    obtain ⟨k, hk, rfl, HO, HK, HW⟩ := hrel
    by_cases hlt : k < 6
    · have hlt' : (k : Int) < 6 := by omega
      obtain ⟨m, hm, ix⟩ := IX k hlt
      have HM : Hid (ns[k]? = some m) := hm
      clear hm
      by_cases hok : okN m
      · obtain ⟨zs, hO, hZ, hT⟩ := HO.out
        have hnb : Below wr.heap.size wr (wr.alloc (.cells #[.int .u8 (m / 256), .int .u8 (m % 256)] 5)) := (Below.refl _ _).alloc (Nat.le_refl _) _
        have HO2 : Hid (Own w1.heap.size (wr.alloc (.cells #[.int .u8 (m / 256), .int .u8 (m % 256)] 5)) u8 (2 * k) zs) := hO.below hnb
        have HR2 : Hid (Rd (wr.alloc (.cells #[.int .u8 (m / 256), .int .u8 (m % 256)] 5)) (some ⟨wr.heap.size, 0, none⟩) [m / 256, m % 256]) := two_rd wr m hok
        have HB2 : Hid (Below w.heap.size w (wr.alloc (.cells #[.int .u8 (m / 256), .int .u8 (m % 256)] 5)) ∧ w1.heap.size ≤ (wr.alloc (.cells #[.int .u8 (m / 256), .int .u8 (m % 256)] 5)).heap.size) := ⟨HW.out.1.trans (hnb.mono HW.out.1.size), by have := HW.out.2; simp; omega⟩
        have HT : Hid (zs.length = 12 ∧ zs.take (2 * k) = b16s (ns.take k)) := ⟨hZ, hT⟩
        have HKK : Hid (okN m) := hok
        have h0 := hok.1
        have h1 := hok.2
        clear hO hZ hT hok hnb
        go_wp2_with fail
        refine (put16_yes m _ h0 h1).mono ?_
        rintro e w3 ⟨rfl, rfl⟩
        go_wp2_with (at_builtin; refine wpList_append_fitB _ rfl _ _ rfl w1.heap.size _ (2 * k) zs rfl HO2.out (some ⟨wr.heap.size, 0, none⟩) 2 2 [m / 256, m % 256] rfl HR2.out rfl (by omega) HB2.out.2 ?_; intro v' w' ys' hO' hT' hG' hF'; have HB3 : Hid (Below w.heap.size w w' ∧ w1.heap.size ≤ w'.heap.size) := ⟨HB2.out.1.grown hG' HB2.out.1.size (fun g hg => Nat.le_trans HS2.out.2.2.1 (HO2.out.lt g hg)), Nat.le_trans HB2.out.2 hG'.size⟩; clear hG')
        refine ⟨⟨k + 1, by omega, by go_num, ⟨ys', ?_, ?_, ?_⟩, ?_, HB3.out⟩, by simp [intOf]; omega⟩
        · have := hO'.out
          rw [show 2 * (k + 1) = 2 * k + 2 by omega]; exact this
        · rw [hF'.out (by rw [HT.out.1]; omega), HT.out.1]
        · rw [b16s_take ns k m HM.out, ← HT.out.2, ← hT'.out]; rfl
        · intro x hx
          rw [List.take_add_one, HM.out] at hx
          rcases List.mem_append.1 hx with hx | hx
          · exact HK.out x hx
          · simp at hx; subst hx; exact HKK.out
      · have HNK : Hid (¬ ∀ x ∈ ns, okN x) := fun h => hok (h m (List.mem_of_getElem? HM.out))
        have hno : m < 0 ∨ (0 ≤ m ∧ 65535 < m) := by unfold okN at hok; omega
        have HNO : Hid (m < 0 ∨ (0 ≤ m ∧ 65535 < m)) := hno
        clear hno hok
        go_wp2_with fail
        refine (put16_no m _ HNO.out).mono ?_
        rintro e w3 ⟨rfl, rfl⟩
        go_wp2
        go_ret2
        exact ⟨fun h => absurd h HNK.out, fun _ => rfl, HW.out.1⟩
    · obtain rfl : k = 6 := by omega
      obtain ⟨zs, hO, hZ, hT⟩ := HO.out
      have e6 : ns.take 6 = ns := List.take_of_length_le (by rw [HNL.out]; exact Nat.le_refl _)
      rw [e6] at hT
      have HK6 : Hid (∀ x ∈ ns, okN x) := by have := HK.out; rw [e6] at this; exact this
      have hz : zs = b16s ns := by rw [← hT]; exact (List.take_of_length_le (by rw [hZ]; exact Nat.le_refl _)).symm
      subst hz
      rcases hO with ⟨_, h, _⟩ | ⟨g, hv, hg, hblk, _, _⟩
      · omega
      · rw [hZ] at hv
        subst hv
        have HG : Hid (w.heap.size ≤ g ∧ Blk wr g (b16s ns)) := ⟨Nat.le_trans HS2.out.2.2.1 hg, hblk⟩
        clear hblk hg hT e6 hZ
        go_wp2
        go_ret2
        exact ⟨fun _ => ⟨g, rfl, HG.out.1, HG.out.2⟩, fun h => absurd HK6.out h, HW.out.1⟩
end Go.Proofs.Ytmlccnpondemiaa
