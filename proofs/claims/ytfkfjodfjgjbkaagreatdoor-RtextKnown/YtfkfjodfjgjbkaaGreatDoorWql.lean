/- Texts laid together: Un Pi Pj Pk Pl Pm Pn Qf Qg. -/
import Derived.Test.YtfkfjodfjgjbkaaGreatDoorWqk
import Derived.Lib.Bytealg
import Derived.WalkLawsBesides
import Derived.Deep.QuietTactic
import Derived.BigQuiet
import Derived.Deep.RegionHeld3
import Derived.Lib.MakeNoZero
import Derived.Lib.Builder
import Derived.Lib.UnsafeStr
/- Picked out of earlier texts. -/
namespace Go.Proofs.YtfkfjodfjgjbkaaGreatDoor
open Go.ChangeShapes Go.WideShapes Go.ChangeAt Go.RowKit
set_option linter.unusedVariables false
set_option linter.unusedSimpArgs false

set_option maxRecDepth 100000 in
set_option maxHeartbeats 400000 in
theorem index_any (s : ByteArray) (c : Int) (w : World) :
    Calls Tryz.prog 114 #[.string s, .int .u8 c] w fun e w' => e = .returned (.int .i64 (Lib.indexByte s.data.toList c.toNat.toUInt8)) ∧ w' = w := by
  have h := call151 s c
  go_enter Tryz.func114, Tryz.ntmps114
  go_wp2
  go_ret
  exact ⟨rfl, rfl⟩
/-- The worth of a digit; -1, if it is none. -/
def wv (c : Int) : Int :=
  if Lib.indexByte [48, 49, 50, 51, 52, 53, 54, 55, 56, 57, 97, 98, 99, 100, 101, 102] c.toNat.toUInt8 < Lib.indexByte [48, 49, 50, 51, 52, 53, 54, 55, 56, 57, 65, 66, 67, 68, 69, 70] c.toNat.toUInt8
  then Lib.indexByte [48, 49, 50, 51, 52, 53, 54, 55, 56, 57, 65, 66, 67, 68, 69, 70] c.toNat.toUInt8 else Lib.indexByte [48, 49, 50, 51, 52, 53, 54, 55, 56, 57, 97, 98, 99, 100, 101, 102] c.toNat.toUInt8
set_option maxRecDepth 100000 in
set_option maxHeartbeats 400000 in
theorem worth_any (c : Int) (w : World) :
    Calls Tryz.prog 133 #[.int .u8 c] w fun e w' => e = .returned (.int .i64 (wv c)) ∧ w' = w := by
  go_enter Tryz.func133, Tryz.ntmps133
  go_wp2_with fail
  refine (index_any _ _ _).mono ?_
  rintro e w1 ⟨rfl, rfl⟩
  go_wp2_with fail
  refine (index_any _ _ _).mono ?_
  rintro e w1 ⟨rfl, rfl⟩
  have hx : ∀ a b : Int, max a b = if a < b then b else a := fun a b => by split <;> omega
  go_wp2
  all_goals
    go_ret
    first
      | exact ⟨by unfold wv; rw [if_pos (by assumption)]; rfl, rfl⟩
      | exact ⟨by unfold wv; rw [if_neg (by apply Int.not_lt.2; assumption)]; rfl, rfl⟩
      | exact ⟨by unfold wv; exact congrArg (fun z => Ending.returned (.int .i64 z)) (hx _ _), rfl⟩
theorem wv_bd (c : Int) (h : 0 ≤ c ∧ c ≤ 255) : -1 ≤ wv c ∧ wv c < 16 := by
  obtain ⟨n, rfl⟩ := Int.eq_ofNat_of_zero_le h.1
  have hn : n < 256 := by omega
  have : ∀ m : Nat, m < 256 → -1 ≤ wv (m : Int) ∧ wv (m : Int) < 16 := by decide +kernel
  exact this n hn
/-- The digits. -/
def dg (d : Int) : Int := if d < 10 then 48 + d else 87 + d
theorem wv_dg (d : Int) (h : 0 ≤ d ∧ d < 16) : wv (dg d) = d := by
  obtain ⟨n, rfl⟩ := Int.eq_ofNat_of_zero_le h.1
  have : ∀ m : Nat, m < 16 → wv (dg (m : Int)) = (m : Int) := by decide +kernel
  exact this n (by omega)
theorem dg_bd (d : Int) (h : 0 ≤ d ∧ d < 16) : 48 ≤ dg d ∧ dg d ≤ 102 := by unfold dg; split <;> omega
/-- The worth of a pair of digits; whether both are digits; the first k pairs. -/
def pv (l : List Int) (k : Nat) : Int := wv (l.getD (2 * k) 0) * 16 + wv (l.getD (2 * k + 1) 0)
def okp (l : List Int) (k : Nat) : Prop := 0 ≤ wv (l.getD (2 * k) 0) ∧ 0 ≤ wv (l.getD (2 * k + 1) 0)
def prs (l : List Int) (k : Nat) : List Int := (List.range k).map (pv l)
theorem prs_succ (l : List Int) (k : Nat) : prs l (k + 1) = prs l k ++ [pv l k] := by simp [prs, List.range_succ]
theorem prs_len (l : List Int) (k : Nat) : (prs l k).length = k := by simp [prs]
theorem or16 (a b : Int) (ha : 0 ≤ a ∧ a < 16) (hb : 0 ≤ b ∧ b < 16) : bits .or .i64 (a * 16) b = a * 16 + b := by
  obtain ⟨m, rfl⟩ := Int.eq_ofNat_of_zero_le ha.1
  obtain ⟨n, rfl⟩ := Int.eq_ofNat_of_zero_le hb.1
  have : ∀ m : Nat, m < 16 → ∀ n : Nat, n < 16 → bits .or .i64 ((m : Int) * 16) (n : Int) = (m : Int) * 16 + (n : Int) := by decide +kernel
  exact this m (by omega) n (by omega)
set_option maxRecDepth 100000 in
set_option maxHeartbeats 1000000 in
theorem unhex_long (s : ByteArray) (w : World) (h : 131070 < s.size) (hs : s.size ≤ 9223372036854775807) :
    Calls Tryz.prog 115 #[.string s] w fun e w' => e = .returned (.tuple #[.slice none 0 0, .int .i64 3]) ∧ w' = w := by
  have h' : (131070 : Int) < (s.size : Int) := by omega
  go_enter Tryz.func115, Tryz.ntmps115
  go_wp2
  go_ret2
  exact ⟨rfl, rfl⟩
set_option maxRecDepth 100000 in
set_option maxHeartbeats 1000000 in
theorem unhex_odd (s : ByteArray) (w : World) (h : s.size ≤ 131070) (ho : s.size % 2 = 1) :
    Calls Tryz.prog 115 #[.string s] w fun e w' => e = .returned (.tuple #[.slice none 0 0, .int .i64 110]) ∧ w' = w := by
  have h' : ¬ (131070 : Int) < (s.size : Int) := by omega
  have h2 : ((s.size : Int) % 2 != 0) = true := by rw [bne_iff_ne]; omega
  go_enter Tryz.func115, Tryz.ntmps115
  go_wp2
  go_ret2
  exact ⟨rfl, rfl⟩
set_option maxRecDepth 100000 in
set_option maxHeartbeats 1000000 in
theorem unhex_even (s : ByteArray) (n : Nat) (w : World) (hn : s.size = 2 * n) (h : s.size ≤ 131070) :
    Calls Tryz.prog 115 #[.string s] w fun e w' => ((∃ k, k < n ∧ ¬ okp (nums s) k) ∧ e = .returned (.tuple #[.slice none 0 0, .int .i64 110]) ∧ Below w.heap.size w w') ∨
      ((∀ k, k < n → okp (nums s) k) ∧ ∃ ao ys, e = .returned (.tuple #[.slice ao n ys.length, .int .i64 0]) ∧ OwnA w.heap.size w' ao n ys ∧ ys.take n = prs (nums s) n ∧ Below w.heap.size w w') := by
  have HN : Hid (s.size = 2 * n) := hn
  have h1 : ¬ (131070 : Int) < (s.size : Int) := by omega
  have h2 : ((s.size : Int) % 2 != 0) = false := by rw [bne_eq_false_iff_eq]; omega
  have h3 : (s.size : Int) / 2 = (n : Int) := by omega
  have hn2 : n ≤ 65535 := by omega
  clear hn
  go_enter Tryz.func115, Tryz.ntmps115
  go_wp2_with (at_make; refine wpList_make_blk _ rfl _ _ rfl 0 n _ _ rfl rfl (by rfl) (by omega) (by omega) (by omega) ?_)
  have HO : Hid (Own w.heap.size (w.alloc (.cells (Array.replicate n (Value.int .u8 0)) 5)) (.slice (some ⟨w.heap.size, 0, none⟩) 0 n) 0 (List.replicate n 0) ∧ Below w.heap.size w (w.alloc (.cells (Array.replicate n (Value.int .u8 0)) 5))) := by
    refine ⟨.inr ⟨w.heap.size, by simp, Nat.le_refl _, ⟨by rw [heap_alloc_new]; simp, fun z hz => ?_⟩, Nat.zero_le _, by simp only [List.length_replicate, maxLen]; omega⟩, (Below.refl _ _).alloc (Nat.le_refl _) _⟩
    rw [(List.mem_replicate.1 hz).2]; omega
  go_loopw [4, 5] (fun v x wr => ∃ k i : Nat, k ≤ n ∧ Hid (i = 2 * k) ∧ x = .int .i64 i ∧ Hid (∃ ys, Own w.heap.size wr v k ys ∧ ys.take k = prs (nums s) k) ∧ Hid (Below w.heap.size w wr) ∧ Hid (∀ j, j < k → okp (nums s) j)) (fun _ x _ => s.size - (intOf x).toNat)
  case atStart => exact ⟨0, 0, Nat.zero_le _, rfl, rfl, ⟨_, HO.out.1, rfl⟩, HO.out.2, fun j hj => absurd hj (by omega)⟩
  case round =>
    obtain ⟨k, i, hk, HI, rfl, HW, HB, HP⟩ := hrel
    clear HO
    by_cases hlt : k < n
    · have hi1 : i + 1 < s.size := by have := HI.out; have := HN.out; omega
      have hi0 : i < s.size := by omega
      have hi1' : (i : Int) + 1 < (s.size : Int) := by omega
      have hi0' : (i : Int) < (s.size : Int) := by omega
      have hw1 : IntKind.i64.wrap ((i : Int) + 1) = (i : Int) + 1 := by rw [IntKind.wrap_i64]; omega
      go_wp2_with fail
      go_region_held3 (fun _ => True) (trivial) (first
        | (go_at_call 133; refine (worth_any _ _).mono ?_; rintro e w2 ⟨rfl, rfl⟩))
      all_goals
        have e0 : (nums s).getD (2 * k) 0 = (s[i].toNat : Int) := by rw [← HI.out]; exact nums_at s i hi0
        have e1 : (nums s).getD (2 * k + 1) 0 = (s[i + 1].toNat : Int) := by rw [← HI.out]; exact nums_at s (i + 1) hi1
        have HOK : Hid (okp (nums s) k ↔ 0 ≤ wv (s[i].toNat : Int) ∧ 0 ≤ wv (s[i + 1].toNat : Int)) := by unfold okp; rw [e0, e1]; exact Iff.rfl
        have HPV : Hid (pv (nums s) k = wv (s[i].toNat : Int) * 16 + wv (s[i + 1].toNat : Int)) := by unfold pv; rw [e0, e1]; rfl
        have b0 := wv_bd (s[i].toNat : Int) (by have := s[i].toNat_lt; omega)
        have b1 := wv_bd (s[i + 1].toNat : Int) (by have := s[i + 1].toNat_lt; omega)
        clear e0 e1
        generalize wv (s[i].toNat : Int) = c0 at *
        generalize wv (s[i + 1].toNat : Int) = c1 at *
        by_cases ha : c0 < 0
        · go_wp2
          go_ret2
          exact .inl ⟨⟨k, hlt, fun h => by have := (HOK.out.1 h).1; omega⟩, rfl, HB.out.drew⟩
        by_cases hb : c1 < 0
        · go_wp2
          go_ret2
          exact .inl ⟨⟨k, hlt, fun h => by have := (HOK.out.1 h).2; omega⟩, rfl, HB.out.drew⟩
        have hz := or16 c0 c1 (by omega) (by omega)
        have hz2 : (c0 * 16 + c1) % 256 = c0 * 16 + c1 := by omega
        obtain ⟨ys, hO, hT⟩ := HW.out
        have hnb : Below wr.heap.size wr (wr.alloc (.cells #[.int .u8 (c0 * 16 + c1)] 5)).drew := ((Below.refl _ _).alloc (Nat.le_refl _) _).drew
        have HO2 : Hid (Own w.heap.size (wr.alloc (.cells #[.int .u8 (c0 * 16 + c1)] 5)).drew u4 k ys ∧ ys.take k = prs (nums s) k) := ⟨hO.below hnb, hT⟩
        have HR2 : Hid (Rd (wr.alloc (.cells #[.int .u8 (c0 * 16 + c1)] 5)).drew (some ⟨wr.heap.size, 0, none⟩) [c0 * 16 + c1]) := (new_rd wr (c0 * 16 + c1) (by omega)).drew
        have HNB : Hid (Below wr.heap.size wr (wr.alloc (.cells #[.int .u8 (c0 * 16 + c1)] 5)).drew) := hnb
        clear hO hT hnb
        go_wp2_with (at_builtin; refine wpList_append_blk _ rfl _ _ rfl w.heap.size _ k ys rfl HO2.out.1 (some ⟨wr.heap.size, 0, none⟩) 1 1 [c0 * 16 + c1] rfl HR2.out rfl (by simp) (by omega) (Nat.le_trans HB.out.size HNB.out.size) ?_; intro v' w' ys' hO' hT' hG')
        have hrow := HO2.out.1.lt
        refine ⟨⟨k + 1, i + 2, by omega, (show i + 2 = 2 * (k + 1) by have := HI.out; omega), by go_num, ⟨ys', hO'.out, ?_⟩, ?_, ?_⟩, by simp [intOf]; omega⟩
        · rw [hT'.out, HO2.out.2, prs_succ, HPV.out]
        · exact (HB.out.trans (HNB.out.mono HB.out.size)).grown hG' (Nat.le_trans HB.out.size HNB.out.size) hrow
        · intro j hj
          by_cases e : j = k
          · rw [e]; exact HOK.out.2 ⟨by omega, by omega⟩
          · exact HP.out j (by omega)
    · obtain rfl : k = n := by omega
      obtain ⟨ys, hO, hT⟩ := HW.out
      obtain ⟨ao, rfl, hoa⟩ := hO.addr
      have hge : (s.size : Int) ≤ (i : Int) := by have := HI.out; have := HN.out; omega
      have HF : Hid (OwnA w.heap.size wr ao k ys ∧ ys.take k = prs (nums s) k) := ⟨hoa, hT⟩
      clear hO hT hoa
      generalize hy : ys.length = yl
      have HY : Hid (ys.length = yl) := hy
      clear hy
      go_wp2
      go_ret2
      exact .inr ⟨HP.out, ao, ys, by rw [HY.out]; rfl, HF.out.1, HF.out.2, HB.out⟩
theorem call131 (n : Nat) (w : World) (hn : n ≤ 281474976710656) : ∃ cs : Array Value, (callFunc 131 #[.int .i64 n]).run Tryz.prog w = .ok (.value (.slice (some ⟨w.heap.size, 0, none⟩) n cs.size)) (w.drew.drew.alloc (.cells cs 5)) ∧ n ≤ cs.size ∧ cs.size ≤ maxLen := by
  obtain ⟨cs, h1, h2, h3⟩ := Lib.run_makeNoZero (P := Tryz.prog) w #[3] 27 5 Tryz.underlying27 n hn
  refine ⟨cs, ?_, h2, h3 (by simp only [maxLen]; omega)⟩
  rw [run_callFunc_extern (e := Extern.BytealgMakeNoZero.makeNoZero #[3] #[27]) Tryz.func131 (by kernel_rfl) (by kernel_rfl) (by kernel_rfl) (by kernel_rfl) _ w, h1]
  rfl
set_option maxRecDepth 100000 in
theorem grown_end {w : World} {b : Nat} {p : Value} (h : BB w b p (.slice none 0 0)) (cs : Array Value) :
    BB ((w.setCell ⟨b, 1, none⟩ (.slice (some ⟨w.heap.size, 0, none⟩) 0 cs.size)).alloc (.cells cs 5)) b p (.slice (some ⟨w.heap.size, 0, none⟩) 0 cs.size) ∧ ((w.setCell ⟨b, 1, none⟩ (.slice (some ⟨w.heap.size, 0, none⟩) 0 cs.size)).alloc (.cells cs 5)).heap[w.heap.size]? = some (.cells cs 5 (0, 0)) ∧
    w.grownBy ((w.setCell ⟨b, 1, none⟩ (.slice (some ⟨w.heap.size, 0, none⟩) 0 cs.size)).alloc (.cells cs 5)).drew.drew.drew (some b) := by
  have hsz : (w.setCell ⟨b, 1, none⟩ (.slice (some ⟨w.heap.size, 0, none⟩) 0 cs.size)).heap.size = w.heap.size := by simp [World.setCell]
  have hold : ∀ j, j < w.heap.size → ((w.setCell ⟨b, 1, none⟩ (.slice (some ⟨w.heap.size, 0, none⟩) 0 cs.size)).alloc (.cells cs 5)).heap[j]? = (w.setCell ⟨b, 1, none⟩ (.slice (some ⟨w.heap.size, 0, none⟩) 0 cs.size)).heap[j]? := fun j hj => Below.heap_alloc _ _ j (by rw [hsz]; exact hj)
  refine ⟨BB.same (heap_set h 1 _) (hold b h.lt), ?_, ⟨rfl, rfl, rfl, by simp [hsz], fun j hj hne => ?_⟩⟩
  · have := heap_alloc_new (w.setCell ⟨b, 1, none⟩ (.slice (some ⟨w.heap.size, 0, none⟩) 0 cs.size)) (.cells cs 5)
    rw [hsz] at this
    exact this
  · exact (hold j hj).trans (Below.heap_setCell _ _ _ j (fun e => hne (by rw [e])))
set_option maxRecDepth 100000 in
set_option maxHeartbeats 1000000 in
theorem grow_nil (b n : Nat) (p : Value) (w : World) (h : BB w b p (.slice none 0 0)) (hn : n ≤ 281474976710656) :
    Calls Tryz.prog 109 #[.pointer (some ⟨b, 0, none⟩), .int .i64 n] w fun e w' => e = .returned (.tuple #[]) ∧ Hid (∃ cs : Array Value, BB w' b p (.slice (some ⟨w.heap.size, 0, none⟩) 0 cs.size) ∧ w'.heap[w.heap.size]? = some (.cells cs 5 (0, 0)) ∧ n ≤ cs.size ∧ cs.size ≤ maxLen ∧ w.grownBy w' (some b)) := by
  have HB : Hid (BB w b p (.slice none 0 0)) := h
  have hb := h.lt
  have c1 := h.c1
  have f1 := h.fz 1
  obtain ⟨cs, hcall, hc1, hc2⟩ := call131 n w.drew hn
  have hw : IntKind.i64.wrap (n : Int) = (n : Int) := by rw [IntKind.wrap_i64]; omega
  have hw0 : IntKind.i64.wrap 0 = 0 := by rfl
  have hcp : ∀ (W : World) (a : Option Addr) (c : Nat), (Builtin.copy_ #[27, 27] 3 #[.slice a 0 c, .slice none 0 0]).run Tryz.prog W = .ok (.int .i64 0) W := fun W a c =>
    run_copy_none (P := Tryz.prog) W 27 27 3 5 a none 0 c 0 0 Tryz.underlying27 (by kernel_rfl) (by simp)
  clear h
  go_enter Tryz.func109, Tryz.ntmps109
  go_wp2_with fail
  go_region_held3 (fun W => W.cell? ⟨b, 1, none⟩ = some (.slice none 0 0)) (go_keep) (fail)
  clear hcall
  go_wp2
  go_end0
  have hM := grown_end HB.out cs
  exact ⟨rfl, cs, hM.1, hM.2.1, hc1, hc2, hM.2.2⟩
set_option maxRecDepth 100000 in
set_option maxHeartbeats 1000000 in
theorem bgrow (B b n : Nat) (w : World) (h : BB w b (.pointer none) (.slice none 0 0)) (hn : n ≤ 281474976710656) (hB : B ≤ b) :
    Calls Tryz.prog 79 #[.pointer (some ⟨b, 0, none⟩), .int .i64 n] w fun e w' => e = .returned (.tuple #[]) ∧ Hid (BSt B w' b n [] ∧ Below B w w') := by
  have HB : Hid (BB w b (.pointer none) (.slice none 0 0)) := h
  have H2 : Hid (BB (w.setCell ⟨b, 0, none⟩ (.pointer (some ⟨b, 0, none⟩))) b (.pointer (some ⟨b, 0, none⟩)) (.slice none 0 0) ∧ Below B w (w.setCell ⟨b, 0, none⟩ (.pointer (some ⟨b, 0, none⟩)))) := ⟨heap_set h 0 _, (Below.refl _ _).setCell hB _⟩
  clear h
  go_enter Tryz.func79, Tryz.ntmps79
  go_wp2_with fail
  refine (check_fresh b _ _ HB.out).mono ?_
  rintro e w1 ⟨rfl, hw1⟩
  have H3 : Hid (BB w1 b (.pointer (some ⟨b, 0, none⟩)) (.slice none 0 0) ∧ Below B w w1) := by rw [hw1]; exact H2.out
  clear hw1 H2 HB
  have c1 := H3.out.1.c1
  have hw0 : IntKind.i64.wrap 0 = 0 := by rfl
  by_cases h0 : n = 0
  · have hd : decide ((0 : Int) < (n : Int)) = false := by simp; omega
    go_wp2_with fail
    go_quiet (fail)
    go_wp2
    go_end0
    exact ⟨rfl, .inl ⟨h0, rfl, H3.out.1⟩, H3.out.2.trans ⟨rfl, rfl, rfl, Nat.le_refl _, fun _ _ => rfl⟩⟩
  · have hd : decide ((0 : Int) < (n : Int)) = true := by simp; omega
    go_wp2_with fail
    go_quiet (fail)
    have H4 : Hid (BB (w1.drewN nq) b (.pointer (some ⟨b, 0, none⟩)) (.slice none 0 0) ∧ Below B w (w1.drewN nq)) := ⟨H3.out.1, H3.out.2.trans ⟨rfl, rfl, rfl, Nat.le_refl _, fun _ _ => rfl⟩⟩
    clear c1
    generalize w1.drewN nq = W2 at *
    go_wp2_with fail
    refine (grow_nil b n _ _ H4.out.1 hn).mono ?_
    rintro e w3 ⟨rfl, H5⟩
    go_wp2
    go_end0
    obtain ⟨cs, q1, q2, q3, q4, q5⟩ := H5.out
    have hlt := H4.out.1.lt
    have hsz := q5.size
    have hlt3 : W2.heap.size < w3.heap.size := (Array.getElem?_eq_some_iff.1 q2).1
    refine ⟨rfl, .inr ⟨W2.heap.size, cs.size, q1, ⟨rfl, .inr ⟨W2.heap.size, cs.size, cs, rfl, ?_, q2, Nat.zero_le _, q4, by simp, by simp⟩⟩, q3, by omega, hlt3, by omega⟩, ?_⟩
    · have := H4.out.2.size; omega
    · exact below_row H4.out.2 hlt q5 hB

theorem dig_at (d : Int) (h0 : 0 ≤ d) (h1 : d < 16) (w : World) : (Instr.index 9 (.string ⟨#[48, 49, 50, 51, 52, 53, 54, 55, 56, 57, 97, 98, 99, 100, 101, 102]⟩) (.int .u8 d)).run Tryz.prog w = .ok (.int .u8 (dg d)) w := by
  have : d = 0 ∨ d = 1 ∨ d = 2 ∨ d = 3 ∨ d = 4 ∨ d = 5 ∨ d = 6 ∨ d = 7 ∨ d = 8 ∨ d = 9 ∨ d = 10 ∨ d = 11 ∨ d = 12 ∨ d = 13 ∨ d = 14 ∨ d = 15 := by omega
  rcases this with rfl | rfl | rfl | rfl | rfl | rfl | rfl | rfl | rfl | rfl | rfl | rfl | rfl | rfl | rfl | rfl <;> (clear h0 h1; show Sem.run _ _ _ = Result.ok _ _; kernel_rfl)
theorem and15 (c : Int) (h : 0 ≤ c ∧ c ≤ 255) : bits .and .u8 c 15 = c % 16 := by
  obtain ⟨n, rfl⟩ := Int.eq_ofNat_of_zero_le h.1
  have : ∀ m : Nat, m < 256 → bits .and .u8 (m : Int) 15 = (m : Int) % 16 := by decide +kernel
  exact this n (by omega)
/-- The digits of bytes, as bytes. -/
def ub (z : Int) : UInt8 := UInt8.ofNat z.toNat
theorem ub_nat (z : Int) (h : 0 ≤ z ∧ z ≤ 255) : ((ub z).toNat : Int) = z := by simp [ub]; omega
def hexl (zs : List Int) : List UInt8 := zs.flatMap fun z => [ub (dg (z / 16)), ub (dg (z % 16))]
theorem hexl_snoc (zs : List Int) (z : Int) : hexl (zs ++ [z]) = hexl zs ++ [ub (dg (z / 16)), ub (dg (z % 16))] := by simp [hexl]
theorem hexl_len (zs : List Int) : (hexl zs).length = 2 * zs.length := by
  induction zs with
  | nil => rfl
  | cons z zs ih => simp only [hexl, List.flatMap_cons, List.length_append, List.length_cons, List.length_nil] at ih ⊢; omega
theorem cells_snoc (zs : List Int) (z : Int) (h : 0 ≤ z ∧ z ≤ 255) : Lib.byteCells (hexl (zs ++ [z])) = Lib.byteCells (hexl zs) ++ [.int .u8 (dg (z / 16))] ++ [.int .u8 (dg (z % 16))] := by
  have d1 := dg_bd (z / 16) (by omega)
  have d2 := dg_bd (z % 16) (by omega)
  rw [hexl_snoc, Lib.byteCells_append]
  simp [Lib.byteCells, ub_nat _ (show 0 ≤ dg (z / 16) ∧ dg (z / 16) ≤ 255 by omega), ub_nat _ (show 0 ≤ dg (z % 16) ∧ dg (z % 16) ≤ 255 by omega)]
set_option maxRecDepth 100000 in
set_option maxHeartbeats 1000000 in
theorem hex_any (a : Option Addr) (len cap : Nat) (zs : List Int) (w : World) (hr : Rd w a zs) (hl : zs.length = len) (hm : len ≤ 140737488351232) :
    Calls Tryz.prog 103 #[.slice a len cap] w fun e w' => e = .returned (.string ⟨(hexl zs).toArray⟩) ∧ Hid (Below w.heap.size w w') := by
  have HR : Hid (Rd w a zs) := hr
  have HL : Hid (zs.length = len) := hl
  have H0 : Hid (BB (w.alloc (.cells #[.pointer none, .slice none 0 0] 81)) w.heap.size (.pointer none) (.slice none 0 0) ∧ Below w.heap.size w (w.alloc (.cells #[.pointer none, .slice none 0 0] 81))) := ⟨heap_alloc_new _ _, (Below.refl _ _).alloc (Nat.le_refl _) _⟩
  have HG : Hid (∀ W, BB W w.heap.size (.pointer none) (.slice none 0 0) → Calls Tryz.prog 79 #[.pointer (some ⟨w.heap.size, 0, none⟩), .int .i64 (2 * (len : Int))] W fun e w' => e = .returned (.tuple #[]) ∧ Hid (BSt w.heap.size w' w.heap.size (2 * len) [] ∧ Below w.heap.size W w')) := by
    intro W hW
    have := bgrow w.heap.size w.heap.size (2 * len) W hW (by omega) (Nat.le_refl _)
    rw [show ((2 * len : Nat) : Int) = 2 * (len : Int) by omega] at this
    exact this
  clear hr hl
  go_enter Tryz.func103, Tryz.ntmps103
  go_wp2_with fail
  refine (HG.out _ H0.out.1).mono ?_
  rintro e w1 ⟨rfl, H1⟩
  have HS : Hid (BSt w.heap.size w1 w.heap.size (2 * len) (Lib.byteCells (hexl (zs.take 0))) ∧ Below w.heap.size w w1) := ⟨H1.out.1, H0.out.2.trans H1.out.2⟩
  clear H0 H1 HG
  go_wp2_with fail
  go_loopw [12] (fun x wr => ∃ k : Nat, k ≤ len ∧ x = .int .i64 k ∧ Hid (BSt w.heap.size wr w.heap.size (2 * len) (Lib.byteCells (hexl (zs.take k))) ∧ Below w.heap.size w wr)) (fun x _ => len - (intOf x).toNat)
  case atStart => exact ⟨0, Nat.zero_le _, rfl, HS⟩
  case round =>
    obtain ⟨k, hk, rfl, HW⟩ := hrel
    clear HS
    by_cases hlt : k < len
    · have hlt' : (k : Int) < (len : Int) := by omega
      have HRw : Hid (Rd wr a zs) := HR.out.below HW.out.2
      rcases HRw.out.1 with e1 | ⟨b, o, rfl, e1, e2⟩
      · have := HL.out; subst e1; simp at this; omega
      have hc := e2 k (by rw [HL.out]; exact hlt)
      have hb := HRw.out.bd k
      clear e2
      have hzk : zs.take (k + 1) = zs.take k ++ [zs.getD k 0] := take_snoc zs k (by rw [HL.out]; exact hlt)
      rw [List.getD_eq_getElem?_getD] at hb hc hzk
      have HZ : Hid (zs.take (k + 1) = zs.take k ++ [zs[k]?.getD 0] ∧ (zs.take k).length = k) := ⟨hzk, by rw [List.length_take, HL.out]; omega⟩
      clear hzk
      generalize zs[k]?.getD 0 = c at *
      have ha := and15 c hb
      have g1 := dig_at (c / 16) (by omega) (by omega)
      have g2 := dig_at (c % 16) (by omega) (by omega)
      have HC : Hid (Lib.byteCells (hexl (zs.take (k + 1))) = Lib.byteCells (hexl (zs.take k)) ++ [.int .u8 (dg (c / 16))] ++ [.int .u8 (dg (c % 16))] ∧ (Lib.byteCells (hexl (zs.take k))).length = 2 * k) := by
        refine ⟨by rw [HZ.out.1]; exact cells_snoc _ _ hb, ?_⟩
        rw [Lib.byteCells_length, hexl_len, HZ.out.2]
      go_wp2_with fail
      refine (bwrite w.heap.size w.heap.size (2 * len) _ (dg (c / 16)) _ HW.out.1 (by rw [HC.out.2]; omega) (Nat.le_refl _)).mono ?_
      rintro e w2 ⟨rfl, H2⟩
      go_wp2_with fail
      refine (bwrite w.heap.size w.heap.size (2 * len) _ (dg (c % 16)) _ H2.out.1 (by rw [List.length_append, HC.out.2, List.length_singleton]; omega) (Nat.le_refl _)).mono ?_
      rintro e w3 ⟨rfl, H3⟩
      clear g1 g2 ha hc
      go_wp2
      refine ⟨⟨k + 1, by omega, by go_num, ?_, ?_⟩, by simp [intOf]; omega⟩
      · rw [HC.out.1]; exact H3.out.1
      · exact (HW.out.2.trans H2.out.2).trans H3.out.2
    · have HB : Hid (BSt w.heap.size wr w.heap.size (2 * len) (Lib.byteCells (hexl zs)) ∧ (hexl zs).length = 2 * len) := by
        have e : zs.take k = zs := List.take_of_length_le (by rw [HL.out]; omega)
        have := HW.out.1
        rw [e] at this
        exact ⟨this, by rw [hexl_len, HL.out]⟩
      have hge : (len : Int) ≤ (k : Int) := by omega
      generalize hLL : hexl zs = L at *
      have HLL : Hid (hexl zs = L) := hLL
      clear hLL
      go_wp2_with fail
      refine (bstring w.heap.size w.heap.size (2 * len) L _ HB.out.1 HB.out.2 (by have := HB.out.2; omega)).mono ?_
      rintro e w2 ⟨rfl, H2⟩
      go_wp2
      go_ret
      exact ⟨by rw [HLL.out]; rfl, HW.out.2.trans H2.out⟩
end Go.Proofs.YtfkfjodfjgjbkaaGreatDoor
/- Names, numbers, texts and bytes as words, as the program tells them. -/
namespace Go.Proofs.YtfkfjodfjgjbkaaGreatDoor
open Go.ChangeShapes Go.WideShapes Go.ChangeAt Go.RowKit
set_option linter.unusedVariables false
set_option linter.unusedSimpArgs false

/-- A list of texts of its own. -/
def TLPost (l : List ByteArray) (w : World) (e : Ending) (w' : World) : Prop :=
  ∃ v ys, e = .returned v ∧ Hid (OwnT w.heap.size w' v l.length ys 1000000 ∧ ys.take l.length = l ∧ Below w.heap.size w w')
theorem mapT_snoc {α : Type} (f : α → ByteArray) (l : List α) (k : Nat) (h : k < l.length) : (l.take (k + 1)).map f = (l.take k).map f ++ [f l[k]] := by
  rw [List.take_add_one, List.getElem?_eq_getElem h, Option.toList_some, List.map_append]; rfl
theorem ntext_size {n : List ByteArray} (h : nck n = 0) : (ntext n).1.size ≤ 1020 := by
  unfold ntext
  rw [if_pos h]
  split
  · show 1 ≤ 1020; omega
  · have h1 := ntxt_size n n.length (Nat.le_refl _)
    rw [List.take_length] at h1
    have h2 := (nck_small h).1
    simp only
    omega
theorem xnw_dec (u : Nat) : (⟨(Lib.decDigits u).toArray⟩ : ByteArray) = xnw u := dec_lb u
theorem xdec_len (n : Nat) : (xdec n).length ≤ n + 1 := by
  induction n using Nat.strongRecOn with
  | _ n ih =>
    by_cases h : n < 10
    · rw [xdec_small h]; simp
    · rw [xdec_big h]
      have := ih (n / 10) (by omega)
      simp; omega
theorem xdec_len10 (n : Nat) (h : n < 4294967296) : (xdec n).length ≤ 10 := by
  have key : ∀ (k n : Nat), n < 10 ^ (k + 1) → (xdec n).length ≤ k + 1 := by
    intro k
    induction k with
    | zero => intro n hn; rw [xdec_small (by omega)]; simp
    | succ k ih =>
      intro n hn
      by_cases h : n < 10
      · rw [xdec_small h]; simp
      · rw [xdec_big h]
        have := ih (n / 10) (by rw [Nat.pow_succ] at hn; omega)
        simp; omega
  exact key 9 n (by omega)
theorem xqw_size (s : ByteArray) : (xqw s).size ≤ 4 * s.size + 2 := by
  have h := xq_len (nums s)
  have : (xqw s).size = (xquote (nums s)).length := by unfold xqw; rw [← nums_len, nums_lb _ (xquote_by _ (nums_all' s))]
  rw [nums_len] at h
  simp only [xquote, List.length_cons, List.length_append, List.length_nil] at this
  omega

set_option maxRecDepth 100000 in
set_option maxHeartbeats 2000000 in
theorem nameT_any (s : Sl) (xs : List (List ByteArray)) (w : World) (hr : NRd w s xs) (hp : ∀ n ∈ xs, nck n = 0) (hn : s.n ≤ 1000000) :
    Calls Tryz.prog 67 #[.slice s.a s.n s.c] w (TLPost (xs.map (fun n => (ntext n).1)) w) := by
  obtain ⟨a, n, c⟩ := s
  have HR : Hid (NRd w ⟨a, n, c⟩ xs) := hr
  have HLn : Hid (xs.length = n) := hr.len
  have HP : Hid (∀ n ∈ xs, nck n = 0) := hp
  simp only at hn ⊢
  clear hr hp
  go_enter Tryz.func67, Tryz.ntmps67
  go_wp2_with fail
  go_loopw [3, 10] (fun v x wr => ∃ k : Nat, k ≤ n ∧ x = .int .i64 k ∧ Hid (∃ ys, OwnT w.heap.size wr v k ys 1000000 ∧ ys.take k = (xs.take k).map (fun n => (ntext n).1)) ∧ Hid (Below w.heap.size w wr)) (fun _ x _ => n - (intOf x).toNat)
  case atStart => exact ⟨0, Nat.zero_le _, rfl, ⟨[], OwnT.nil _ _ _, rfl⟩, Below.refl _ _⟩
  case round =>
    obtain ⟨k, hk, rfl, HW, HB⟩ := hrel
    by_cases hlt : k < n
    · have hlt' : (k : Int) < (n : Int) := by omega
      have hkz : k < xs.length := by rw [HLn.out]; exact hlt
      have HT : Hid ((xs.take (k + 1)).map (fun n => (ntext n).1) = (xs.take k).map (fun n => (ntext n).1) ++ [(ntext xs[k]).1]) := mapT_snoc _ xs k hkz
      obtain ⟨b, o, hbo, hb, x, hc, hx⟩ := (HR.out.below HB.out).at k hkz
      simp only at hbo
      subst hbo
      have hck := HP.out _ (List.getElem_mem hkz)
      have hsz : (ntext xs[k]).1.size ≤ 1000000 := by have := ntext_size hck; omega
      have K := Lib.hid (ptext_any x.a x.n x.c xs[k] wr ⟨hx.rd, hx.len, by have := (nck_small hck).1; omega⟩)
      generalize (ntext xs[k]).2 = q at *
      generalize (ntext xs[k]).1 = f at *
      clear hx hck
      go_wp2_with fail
      refine K.out.mono ?_
      rintro e w2 ⟨rfl, H2⟩
      obtain ⟨ys, hO, hT⟩ := HW.out
      have hnb : Below w2.heap.size w2 (w2.alloc (.cells #[.string f] 9)) := (Below.refl _ _).alloc (Nat.le_refl _) _
      have HO2 : Hid (OwnT w.heap.size (w2.alloc (.cells #[.string f] 9)) u3 k ys 1000000 ∧ ys.take k = (xs.take k).map (fun n => (ntext n).1)) := ⟨(hO.below H2.out).below hnb, hT⟩
      have HNB : Hid (Below w2.heap.size w2 (w2.alloc (.cells #[.string f] 9))) := hnb
      have HB3 : Hid (Below w.heap.size w w2) := HB.out.trans (H2.out.mono HB.out.size)
      clear hO hT hnb HW H2 HB
      go_wp2_with (at_builtin; refine wpList_append_T tyT _ rfl _ _ 26 9 Tryz.underlying26 rfl w.heap.size _ k ys 1000000 rfl HO2.out.1 (some ⟨w2.heap.size, 0, none⟩) 1 1 [f] rfl (one_rdT w2 f) rfl (by intro s hs; simp at hs; subst hs; exact hsz) (by omega) (Nat.le_trans HB3.out.size HNB.out.size) ?_; intro v' w' ys' hO' hT' hG')
      have hrow := HO2.out.1.1.lt
      refine ⟨⟨k + 1, by omega, by go_num, ⟨ys', hO'.out, ?_⟩, ?_⟩, by simp [intOf]; omega⟩
      · rw [hT'.out, HO2.out.2, HT.out]
      · exact (HB3.out.trans (HNB.out.mono HB3.out.size)).grown hG' (Nat.le_trans HB3.out.size HNB.out.size) hrow
    · have hge : ¬ (k : Int) < (n : Int) := by omega
      have hkn : k = n := by omega
      subst hkn
      go_wp2_with fail
      go_ret
      obtain ⟨ys, hO, hT⟩ := HW.out
      have hx : xs.take k = xs := List.take_of_length_le (by rw [HLn.out]; exact Nat.le_refl _)
      rw [hx] at hT
      have hl : (xs.map (fun n => (ntext n).1)).length = k := by rw [List.length_map, HLn.out]
      rw [← hl] at hO hT
      exact ⟨_, ys, rfl, hO, hT, HB.out⟩

set_option maxRecDepth 100000 in
set_option maxHeartbeats 2000000 in
theorem numT_any (s : Sl) (xs : List (Nat)) (w : World) (hr : URd w s xs)  (hn : s.n ≤ 1000000) (hL : LayT w) :
    Calls Tryz.prog 68 #[.slice s.a s.n s.c] w (TLPost (xs.map xnw) w) := by
  obtain ⟨a, n, c⟩ := s
  have HR : Hid (URd w ⟨a, n, c⟩ xs) := hr
  have HLn : Hid (xs.length = n) := hr.len
  have HL : Hid (LayT w) := hL
  simp only at hn ⊢
  clear hr hL
  go_enter Tryz.func68, Tryz.ntmps68
  go_wp2_with fail
  go_loopw [3, 8] (fun v x wr => ∃ k : Nat, k ≤ n ∧ x = .int .i64 k ∧ Hid (∃ ys, OwnT w.heap.size wr v k ys 1000000 ∧ ys.take k = (xs.take k).map xnw) ∧ Hid (Below w.heap.size w wr)) (fun _ x _ => n - (intOf x).toNat)
  case atStart => exact ⟨0, Nat.zero_le _, rfl, ⟨[], OwnT.nil _ _ _, rfl⟩, Below.refl _ _⟩
  case round =>
    obtain ⟨k, hk, rfl, HW, HB⟩ := hrel
    by_cases hlt : k < n
    · have hlt' : (k : Int) < (n : Int) := by omega
      have hkz : k < xs.length := by rw [HLn.out]; exact hlt
      have HT : Hid ((xs.take (k + 1)).map xnw = (xs.take k).map xnw ++ [(xnw) xs[k]]) := mapT_snoc _ xs k hkz
      obtain ⟨b, o, hbo, hb, hc⟩ := (HR.out.below HB.out).at k hkz
      simp only at hbo
      subst hbo
      have hu := HR.out.bd _ (List.getElem_mem hkz)
      generalize xs[k] = u at *
      have hsz : (xnw u).size ≤ 1000000 := by have := xdec_len10 u (by omega); rw [← nums_len, xnw_nums]; omega
      have K := Lib.hid (fun W hW => fmt10 u (by omega) W hW)
      rw [xnw_dec u] at K
      generalize xnw u = f at *
      have hu' : (u : Int) ≤ 4294967295 := by omega
      go_wp2_with fail
      refine (K.out _ (HL.out.below HB.out)).mono ?_
      rintro e w2 ⟨rfl, H2⟩
      obtain ⟨ys, hO, hT⟩ := HW.out
      have hnb : Below w2.heap.size w2 (w2.alloc (.cells #[.string f] 9)) := (Below.refl _ _).alloc (Nat.le_refl _) _
      have HO2 : Hid (OwnT w.heap.size (w2.alloc (.cells #[.string f] 9)) u3 k ys 1000000 ∧ ys.take k = (xs.take k).map xnw) := ⟨(hO.below H2.out).below hnb, hT⟩
      have HNB : Hid (Below w2.heap.size w2 (w2.alloc (.cells #[.string f] 9))) := hnb
      have HB3 : Hid (Below w.heap.size w w2) := HB.out.trans (H2.out.mono HB.out.size)
      clear hO hT hnb HW H2 HB
      go_wp2_with (at_builtin; refine wpList_append_T tyT _ rfl _ _ 26 9 Tryz.underlying26 rfl w.heap.size _ k ys 1000000 rfl HO2.out.1 (some ⟨w2.heap.size, 0, none⟩) 1 1 [f] rfl (one_rdT w2 f) rfl (by intro s hs; simp at hs; subst hs; exact hsz) (by omega) (Nat.le_trans HB3.out.size HNB.out.size) ?_; intro v' w' ys' hO' hT' hG')
      have hrow := HO2.out.1.1.lt
      refine ⟨⟨k + 1, by omega, by go_num, ⟨ys', hO'.out, ?_⟩, ?_⟩, by simp [intOf]; omega⟩
      · rw [hT'.out, HO2.out.2, HT.out]
      · exact (HB3.out.trans (HNB.out.mono HB3.out.size)).grown hG' (Nat.le_trans HB3.out.size HNB.out.size) hrow
    · have hge : ¬ (k : Int) < (n : Int) := by omega
      have hkn : k = n := by omega
      subst hkn
      go_wp2_with fail
      go_ret
      obtain ⟨ys, hO, hT⟩ := HW.out
      have hx : xs.take k = xs := List.take_of_length_le (by rw [HLn.out]; exact Nat.le_refl _)
      rw [hx] at hT
      have hl : (xs.map xnw).length = k := by rw [List.length_map, HLn.out]
      rw [← hl] at hO hT
      exact ⟨_, ys, rfl, hO, hT, HB.out⟩

set_option maxRecDepth 100000 in
set_option maxHeartbeats 2000000 in
theorem quoT_any (s : Sl) (xs : List (ByteArray)) (w : World) (hr : TRd w s xs) (hp : ∀ t ∈ xs, t.size ≤ 200000) (hn : s.n ≤ 1000000) :
    Calls Tryz.prog 69 #[.slice s.a s.n s.c] w (TLPost (xs.map xqw) w) := by
  obtain ⟨a, n, c⟩ := s
  have HR : Hid (TRd w ⟨a, n, c⟩ xs) := hr
  have HLn : Hid (xs.length = n) := hr.len
  have HP : Hid (∀ t ∈ xs, t.size ≤ 200000) := hp
  simp only at hn ⊢
  clear hr hp
  go_enter Tryz.func69, Tryz.ntmps69
  go_wp2_with fail
  go_loopw [3, 8] (fun v x wr => ∃ k : Nat, k ≤ n ∧ x = .int .i64 k ∧ Hid (∃ ys, OwnT w.heap.size wr v k ys 1000000 ∧ ys.take k = (xs.take k).map xqw) ∧ Hid (Below w.heap.size w wr)) (fun _ x _ => n - (intOf x).toNat)
  case atStart => exact ⟨0, Nat.zero_le _, rfl, ⟨[], OwnT.nil _ _ _, rfl⟩, Below.refl _ _⟩
  case round =>
    obtain ⟨k, hk, rfl, HW, HB⟩ := hrel
    by_cases hlt : k < n
    · have hlt' : (k : Int) < (n : Int) := by omega
      have hkz : k < xs.length := by rw [HLn.out]; exact hlt
      have HT : Hid ((xs.take (k + 1)).map xqw = (xs.take k).map xqw ++ [(xqw) xs[k]]) := mapT_snoc _ xs k hkz
      obtain ⟨b, o, hbo, hb, hc⟩ := (HR.out.below HB.out).rd.at k hkz
      simp only at hbo
      subst hbo
      have hp := HP.out _ (List.getElem_mem hkz)
      generalize xs[k] = u at *
      have hsz : (xqw u).size ≤ 1000000 := by have := xqw_size u; omega
      have K := Lib.hid (quote_any u wr (by omega))
      generalize xqw u = f at *
      go_wp2_with fail
      refine K.out.mono ?_
      rintro e w2 ⟨rfl, H2⟩
      obtain ⟨ys, hO, hT⟩ := HW.out
      have hnb : Below w2.heap.size w2 (w2.alloc (.cells #[.string f] 9)) := (Below.refl _ _).alloc (Nat.le_refl _) _
      have HO2 : Hid (OwnT w.heap.size (w2.alloc (.cells #[.string f] 9)) u3 k ys 1000000 ∧ ys.take k = (xs.take k).map xqw) := ⟨(hO.below H2.out).below hnb, hT⟩
      have HNB : Hid (Below w2.heap.size w2 (w2.alloc (.cells #[.string f] 9))) := hnb
      have HB3 : Hid (Below w.heap.size w w2) := HB.out.trans (H2.out.mono HB.out.size)
      clear hO hT hnb HW H2 HB
      go_wp2_with (at_builtin; refine wpList_append_T tyT _ rfl _ _ 26 9 Tryz.underlying26 rfl w.heap.size _ k ys 1000000 rfl HO2.out.1 (some ⟨w2.heap.size, 0, none⟩) 1 1 [f] rfl (one_rdT w2 f) rfl (by intro s hs; simp at hs; subst hs; exact hsz) (by omega) (Nat.le_trans HB3.out.size HNB.out.size) ?_; intro v' w' ys' hO' hT' hG')
      have hrow := HO2.out.1.1.lt
      refine ⟨⟨k + 1, by omega, by go_num, ⟨ys', hO'.out, ?_⟩, ?_⟩, by simp [intOf]; omega⟩
      · rw [hT'.out, HO2.out.2, HT.out]
      · exact (HB3.out.trans (HNB.out.mono HB3.out.size)).grown hG' (Nat.le_trans HB3.out.size HNB.out.size) hrow
    · have hge : ¬ (k : Int) < (n : Int) := by omega
      have hkn : k = n := by omega
      subst hkn
      go_wp2_with fail
      go_ret
      obtain ⟨ys, hO, hT⟩ := HW.out
      have hx : xs.take k = xs := List.take_of_length_le (by rw [HLn.out]; exact Nat.le_refl _)
      rw [hx] at hT
      have hl : (xs.map xqw).length = k := by rw [List.length_map, HLn.out]
      rw [← hl] at hO hT
      exact ⟨_, ys, rfl, hO, hT, HB.out⟩
end Go.Proofs.YtfkfjodfjgjbkaaGreatDoor
/- Data as words, as the program tells them. -/
namespace Go.Proofs.YtfkfjodfjgjbkaaGreatDoor
open Go.ChangeShapes Go.WideShapes Go.ChangeAt Go.RowKit
set_option linter.unusedVariables false
set_option linter.unusedSimpArgs false

theorem dg_hd (d : Int) (h : 0 ≤ d ∧ d < 16) : dg d = xhd d.toNat := by
  unfold dg xhd
  by_cases h1 : d < 10
  · rw [if_pos h1, if_pos (by omega)]; omega
  · rw [if_neg h1, if_neg (by omega)]; omega
theorem hexl_lb (zs : List Int) (h : ∀ z ∈ zs, 0 ≤ z ∧ z ≤ 255) : (⟨(hexl zs).toArray⟩ : ByteArray) = lb (xhexs zs) := by
  unfold lb
  congr 2
  unfold hexl txt xhexs
  induction zs with
  | nil => rfl
  | cons z zs ih =>
    have hz := h z (by simp)
    simp only [List.flatMap_cons, List.map_append, List.map_cons, List.map_nil]
    rw [ih (fun y hy => h y (List.mem_cons_of_mem _ hy)), dg_hd (z / 16) (by omega), dg_hd (z % 16) (by omega)]
    rfl
def hashW (raw : List Int) : List ByteArray := lb [92, 35] :: xnw raw.length :: (if raw = [] then [] else [lb (xhexs raw)])
theorem two_own (w : World) (a b : ByteArray) (ha : a.size ≤ 1000000) (hb : b.size ≤ 1000000) : OwnT w.heap.size (w.alloc (.cells #[.string a, .string b] 9)) (.slice (some ⟨w.heap.size, 0, none⟩) 2 2) 2 [a, b] 1000000 := by
  refine ⟨.inr ⟨w.heap.size, rfl, Nat.le_refl _, heap_alloc_new _ _, by simp [tv], by simp [tv, maxLen]⟩, ?_⟩
  intro s hs
  simp at hs
  rcases hs with rfl | rfl
  · exact ha
  · exact hb
theorem one_own (w : World) (a : ByteArray) (ha : a.size ≤ 1000000) : OwnT w.heap.size (w.alloc (.cells #[.string a] 9)) (.slice (some ⟨w.heap.size, 0, none⟩) 1 1) 1 [a] 1000000 := by
  refine ⟨.inr ⟨w.heap.size, rfl, Nat.le_refl _, heap_alloc_new _ _, by simp [tv], by simp [tv, maxLen]⟩, ?_⟩
  intro s hs
  simp at hs
  subst hs
  exact ha
set_option maxRecDepth 100000 in
set_option maxHeartbeats 2000000 in
theorem hashed_any (a : Option Addr) (n c : Nat) (zs : List Int) (w : World) (hr : Rd w a zs) (hl : zs.length = n) (hn : n ≤ 65535) (hL : LayT w) :
    Calls Tryz.prog 70 #[.slice a n c] w (TLPost (hashW zs) w) := by
  have HR : Hid (Rd w a zs) := hr
  have HLn : Hid (zs.length = n) := hl
  have K1 := Lib.hid (itoa_nat n (by omega) w hL)
  rw [xnw_dec n] at K1
  have hz1 : (xnw n).size ≤ 1000000 := by have := xdec_len10 n (by omega); rw [← nums_len, xnw_nums]; omega
  have HW0 : Hid (hashW zs = lb [92, 35] :: xnw n :: (if zs = [] then [] else [lb (xhexs zs)])) := by show _ = _; unfold hashW; rw [hl]
  have hz2 : (lb (xhexs zs)).size ≤ 1000000 := by
    have h1 := xhexs_len zs
    rw [← nums_len, nums_lb _ (fun c hc => by have := xhexs_by zs hr.2 c hc; omega)]
    omega
  have KX := Lib.hid (fun W (hW : Rd W a zs) => hex_any a n c zs W hW hl (by omega))
  rw [hexl_lb zs hr.2] at KX
  clear hr hL
  generalize xnw n = f1 at *
  generalize lb (xhexs zs) = f2 at *
  go_enter Tryz.func70, Tryz.ntmps70
  go_wp2_with fail
  refine K1.out.mono ?_
  rintro e w1 ⟨rfl, H1⟩
  have HO := Lib.hid (two_own w1 (lb [92, 35]) f1 (by decide) hz1)
  have HB1 : Hid (Below w.heap.size w (w1.alloc (.cells #[.string ⟨#[92, 35]⟩, .string f1] 9))) := H1.out.trans ((Below.refl _ _).alloc H1.out.size _)
  have hs1 := H1.out.size
  by_cases h0 : n = 0
  · subst h0
    have e0 : zs = [] := List.length_eq_zero_iff.1 HLn.out
    have HW1 : Hid (hashW zs = [lb [92, 35], f1]) := by show _ = _; rw [HW0.out, if_pos e0]
    clear K1 KX H1
    go_wp2_with fail
    go_ret
    rw [HW1.out]
    exact ⟨_, [lb [92, 35], f1], rfl, HO.out.mono hs1, rfl, HB1.out⟩
  · have h0' : (0 : Int) < (n : Int) := by omega
    have e0 : zs ≠ [] := by intro e; have := HLn.out; rw [e] at this; exact h0 this.symm
    have HW1 : Hid (hashW zs = [lb [92, 35], f1, f2]) := by show _ = _; rw [HW0.out, if_neg e0]
    have e92 : (lb [92, 35] : ByteArray) = ⟨#[92, 35]⟩ := rfl
    rw [e92] at HO
    have HLT : Hid (w1.heap.size ≤ (w1.alloc (.cells #[.string ⟨#[92, 35]⟩, .string f1] 9)).heap.size) := by show _ ≤ _; simp
    clear K1 H1 e0 h0
    go_wp2_with fail
    generalize (w1.alloc (.cells #[.string ⟨#[92, 35]⟩, .string f1] 9)) = w2 at *
    refine (KX.out _ (HR.out.below HB1.out)).mono ?_
    rintro e w3 ⟨rfl, H3⟩
    have hnb : Below w3.heap.size w3 (w3.alloc (.cells #[.string f2] 9)) := (Below.refl _ _).alloc (Nat.le_refl _) _
    have HO2 : Hid (OwnT w1.heap.size (w3.alloc (.cells #[.string f2] 9)) (.slice (some ⟨w1.heap.size, 0, none⟩) 2 2) 2 [⟨#[92, 35]⟩, f1] 1000000) := (HO.out.below H3.out).below hnb
    have HB3 : Hid (Below w.heap.size w (w3.alloc (.cells #[.string f2] 9))) := (HB1.out.trans (H3.out.mono HB1.out.size)).trans (hnb.mono (Nat.le_trans HB1.out.size H3.out.size))
    have HLE : Hid (w1.heap.size ≤ (w3.alloc (.cells #[.string f2] 9)).heap.size) := by
      show _ ≤ _
      have := H3.out.size
      have := HLT.out
      simp
      omega
    clear hnb HO H3 HB1 KX
    go_wp2_with (at_builtin; refine wpList_append_T tyT _ rfl _ _ 26 9 Tryz.underlying26 rfl w1.heap.size _ 2 [⟨#[92, 35]⟩, f1] 1000000 rfl HO2.out (some ⟨w3.heap.size, 0, none⟩) 1 1 [f2] rfl (one_rdT w3 f2) rfl (by intro s hs; simp at hs; subst hs; exact hz2) (by omega) HLE.out ?_; intro v' w' ys' hO' hT' hG')
    have hrow := HO2.out.1.lt
    go_ret
    rw [HW1.out]
    refine ⟨_, ys', rfl, hO'.out.mono hs1, hT'.out, ?_⟩
    exact HB3.out.grown hG' HB3.out.size (fun g hg => Nat.le_trans hs1 (hrow g hg))
end Go.Proofs.YtfkfjodfjgjbkaaGreatDoor
/- Data as words, by types, as the program tells them. -/
namespace Go.Proofs.YtfkfjodfjgjbkaaGreatDoor
open Go.ChangeShapes Go.WideShapes Go.ChangeAt Go.RowKit
set_option linter.unusedVariables false
set_option linter.unusedSimpArgs false

set_option maxRecDepth 100000 in
set_option maxHeartbeats 4000000 in
theorem tell_addr (t : Nat) (ht : t = 1 ∨ t = 28) (x : DA) (d : Dat) (w : World) (h : DRd w x d) (hr : d.raw.length = 4 ∨ d.raw.length = 16) (hL : LayT w) :
    Calls Tryz.prog 37 #[.int .u16 t, .agg #[.slice x.p1.a x.p1.n x.p1.c, .slice x.p2.a x.p2.n x.p2.c, .slice x.p3.a x.p3.n x.p3.c, .slice x.p4.a x.p4.n x.p4.c]] w (TLPost ([lb ((xaddr d.raw).getD [])]) w) := by
  obtain ⟨⟨a1, n1, k1⟩, ⟨a2, n2, k2⟩, ⟨a3, n3, k3⟩, ⟨a4, n4, k4⟩⟩ := x
  have hb0 : Below w.heap.size w (w.alloc (.cells #[.slice a1 n1 k1, .slice a2 n2 k2, .slice a3 n3 k3, .slice a4 n4 k4] 29)) := (Below.refl _ _).alloc (Nat.le_refl _) _
  have H : Hid (DBox (w.alloc (.cells #[.slice a1 n1 k1, .slice a2 n2 k2, .slice a3 n3 k3, .slice a4 n4 k4] 29)) w.heap.size ⟨⟨a1, n1, k1⟩, ⟨a2, n2, k2⟩, ⟨a3, n3, k3⟩, ⟨a4, n4, k4⟩⟩ ∧ DRd (w.alloc (.cells #[.slice a1 n1 k1, .slice a2 n2 k2, .slice a3 n3 k3, .slice a4 n4 k4] 29)) ⟨⟨a1, n1, k1⟩, ⟨a2, n2, k2⟩, ⟨a3, n3, k3⟩, ⟨a4, n4, k4⟩⟩ d ∧ Below w.heap.size w (w.alloc (.cells #[.slice a1 n1 k1, .slice a2 n2 k2, .slice a3 n3 k3, .slice a4 n4 k4] 29)) ∧ LayT (w.alloc (.cells #[.slice a1 n1 k1, .slice a2 n2 k2, .slice a3 n3 k3, .slice a4 n4 k4] 29))) := ⟨DBox.new w ⟨⟨a1, n1, k1⟩, ⟨a2, n2, k2⟩, ⟨a3, n3, k3⟩, ⟨a4, n4, k4⟩⟩, h.below hb0, hb0, hL.below hb0⟩
  clear h hL hb0
  simp only
  have hr4 : n4 = 4 ∨ n4 = 16 := by have := H.out.2.1.h4.len; simp only at this; rw [← this]; exact hr
  have hsz : (lb ((xaddr d.raw).getD [])).size ≤ 1000000 := by
    obtain ⟨s, hs⟩ := xaddr_some d.raw hr
    rw [hs, Option.getD_some, ← nums_len, (addr_term s (xaddr_ok _ _ hs)).1]
    unfold xaddr at hs
    have hbz := H.out.2.1.h4.rd.2
    split at hs
    · injection hs with hs; subst hs
      have := xjoin_len 46 (d.raw.map fun c => xdec c.toNat) 3 (by
        intro p hp
        obtain ⟨z, hz, rfl⟩ := List.mem_map.1 hp
        have := hbz z hz
        exact xdec_le _ (by omega))
      rw [List.length_map] at this
      omega
    · split at hs
      · next h16 =>
        injection hs with hs; subst hs
        obtain ⟨i1, i2, i3⟩ := xprs_by d.raw 8 (by omega) hbz
        have hc : ∀ l : List Nat, l.length ≤ 8 → (∀ n ∈ l, n < 65536) → (xcol l).length ≤ 40 := by
          intro l h1 h2
          have := xjoin_len 58 (l.map xhex) 4 (by
            intro p hp
            obtain ⟨z, hz, rfl⟩ := List.mem_map.1 hp
            exact (xhex_len _ (h2 z hz)).2)
          rw [List.length_map] at this
          unfold xcol; omega
        unfold xa6
        split
        · have := hc _ (by omega) i3; omega
        · have h1 := hc ((xprs d.raw).take (xlong (xprs d.raw)).1) (by simp; omega) (fun n hn => i3 n (List.mem_of_mem_take hn))
          have h2 := hc ((xprs d.raw).drop ((xlong (xprs d.raw)).1 + (xlong (xprs d.raw)).2)) (by simp; omega) (fun n hn => i3 n (List.mem_of_mem_drop hn))
          simp only [List.length_append, List.length_cons]
          omega
      · cases hs
  have K := Lib.hid (fun W (hd : DRd W ⟨⟨a1, n1, k1⟩, ⟨a2, n2, k2⟩, ⟨a3, n3, k3⟩, ⟨a4, n4, k4⟩⟩ d) (hW : LayT W) => atext_any a4 n4 k4 d.raw W hd.h4.rd hd.h4.len hr4 hW)
  clear hr hr4
  obtain ⟨f, hf⟩ : ∃ f, lb ((xaddr d.raw).getD []) = f := ⟨_, rfl⟩
  rw [hf] at K hsz ⊢
  clear hf
  rcases ht with rfl | rfl
  all_goals
    go_enter Tryz.func37, Tryz.ntmps37
    have d0 := H.out.1.1
    have d1 := H.out.1.2.1
    have d2 := H.out.1.2.2.1
    have d3 := H.out.1.2.2.2.1
    simp only at d0 d1 d2 d3
    go_wp2_with fail
    refine (K.out _ H.out.2.1 H.out.2.2.2).mono ?_
    rintro e w2 ⟨rfl, H2⟩
    have HB2 := Lib.hid (H.out.2.2.1.trans (H2.out.mono H.out.2.2.1.size))
    have HO := Lib.hid (one_own w2 f hsz)
    go_wp2_with fail
    go_ret
    exact ⟨_, [f], rfl, HO.out.mono HB2.out.size, rfl, HB2.out.trans ((Below.refl _ _).alloc HB2.out.size _)⟩
set_option maxRecDepth 100000 in
set_option maxHeartbeats 4000000 in
theorem tell_names (t : Nat) (ht : t = 2 ∨ t = 5 ∨ t = 12) (x : DA) (d : Dat) (w : World) (h : DRd w x d) (hp : ∀ n ∈ d.ns, nck n = 0) (hn : d.ns.length ≤ 1000) (hL : LayT w) :
    Calls Tryz.prog 37 #[.int .u16 t, .agg #[.slice x.p1.a x.p1.n x.p1.c, .slice x.p2.a x.p2.n x.p2.c, .slice x.p3.a x.p3.n x.p3.c, .slice x.p4.a x.p4.n x.p4.c]] w (TLPost (d.ns.map (fun n => (ntext n).1)) w) := by
  obtain ⟨⟨a1, n1, k1⟩, ⟨a2, n2, k2⟩, ⟨a3, n3, k3⟩, ⟨a4, n4, k4⟩⟩ := x
  have hb0 : Below w.heap.size w (w.alloc (.cells #[.slice a1 n1 k1, .slice a2 n2 k2, .slice a3 n3 k3, .slice a4 n4 k4] 29)) := (Below.refl _ _).alloc (Nat.le_refl _) _
  have H : Hid (DBox (w.alloc (.cells #[.slice a1 n1 k1, .slice a2 n2 k2, .slice a3 n3 k3, .slice a4 n4 k4] 29)) w.heap.size ⟨⟨a1, n1, k1⟩, ⟨a2, n2, k2⟩, ⟨a3, n3, k3⟩, ⟨a4, n4, k4⟩⟩ ∧ DRd (w.alloc (.cells #[.slice a1 n1 k1, .slice a2 n2 k2, .slice a3 n3 k3, .slice a4 n4 k4] 29)) ⟨⟨a1, n1, k1⟩, ⟨a2, n2, k2⟩, ⟨a3, n3, k3⟩, ⟨a4, n4, k4⟩⟩ d ∧ Below w.heap.size w (w.alloc (.cells #[.slice a1 n1 k1, .slice a2 n2 k2, .slice a3 n3 k3, .slice a4 n4 k4] 29)) ∧ LayT (w.alloc (.cells #[.slice a1 n1 k1, .slice a2 n2 k2, .slice a3 n3 k3, .slice a4 n4 k4] 29))) := ⟨DBox.new w ⟨⟨a1, n1, k1⟩, ⟨a2, n2, k2⟩, ⟨a3, n3, k3⟩, ⟨a4, n4, k4⟩⟩, h.below hb0, hb0, hL.below hb0⟩
  clear h hL hb0
  simp only
  have hn1 : n1 ≤ 1000000 := by have := H.out.2.1.h1.len; simp only at this; omega
  have K := Lib.hid (fun W (hd : DRd W ⟨⟨a1, n1, k1⟩, ⟨a2, n2, k2⟩, ⟨a3, n3, k3⟩, ⟨a4, n4, k4⟩⟩ d) => nameT_any ⟨a1, n1, k1⟩ d.ns W hd.h1 hp hn1)
  clear hp hn
  rcases ht with rfl | rfl | rfl
  all_goals
    go_enter Tryz.func37, Tryz.ntmps37
    have d0 := H.out.1.1
    have d1 := H.out.1.2.1
    have d2 := H.out.1.2.2.1
    have d3 := H.out.1.2.2.2.1
    simp only at d0 d1 d2 d3
    go_wp2_with fail
    refine (K.out _ H.out.2.1).mono ?_
    rintro e w2 ⟨v, ys, rfl, H2⟩
    have HB2 := Lib.hid (H.out.2.2.1.trans (H2.out.2.2.mono H.out.2.2.1.size))
    go_wp2_with fail
    go_ret
    exact ⟨_, ys, rfl, H2.out.1.mono H.out.2.2.1.size, H2.out.2.1, HB2.out⟩
set_option maxRecDepth 100000 in
set_option maxHeartbeats 4000000 in
theorem tell_txt (t : Nat) (ht : t = 16) (x : DA) (d : Dat) (w : World) (h : DRd w x d) (hp : ∀ s ∈ d.ts, s.size ≤ 200000) (hn : d.ts.length ≤ 1000000) (hL : LayT w) :
    Calls Tryz.prog 37 #[.int .u16 t, .agg #[.slice x.p1.a x.p1.n x.p1.c, .slice x.p2.a x.p2.n x.p2.c, .slice x.p3.a x.p3.n x.p3.c, .slice x.p4.a x.p4.n x.p4.c]] w (TLPost (d.ts.map xqw) w) := by
  obtain ⟨⟨a1, n1, k1⟩, ⟨a2, n2, k2⟩, ⟨a3, n3, k3⟩, ⟨a4, n4, k4⟩⟩ := x
  have hb0 : Below w.heap.size w (w.alloc (.cells #[.slice a1 n1 k1, .slice a2 n2 k2, .slice a3 n3 k3, .slice a4 n4 k4] 29)) := (Below.refl _ _).alloc (Nat.le_refl _) _
  have H : Hid (DBox (w.alloc (.cells #[.slice a1 n1 k1, .slice a2 n2 k2, .slice a3 n3 k3, .slice a4 n4 k4] 29)) w.heap.size ⟨⟨a1, n1, k1⟩, ⟨a2, n2, k2⟩, ⟨a3, n3, k3⟩, ⟨a4, n4, k4⟩⟩ ∧ DRd (w.alloc (.cells #[.slice a1 n1 k1, .slice a2 n2 k2, .slice a3 n3 k3, .slice a4 n4 k4] 29)) ⟨⟨a1, n1, k1⟩, ⟨a2, n2, k2⟩, ⟨a3, n3, k3⟩, ⟨a4, n4, k4⟩⟩ d ∧ Below w.heap.size w (w.alloc (.cells #[.slice a1 n1 k1, .slice a2 n2 k2, .slice a3 n3 k3, .slice a4 n4 k4] 29)) ∧ LayT (w.alloc (.cells #[.slice a1 n1 k1, .slice a2 n2 k2, .slice a3 n3 k3, .slice a4 n4 k4] 29))) := ⟨DBox.new w ⟨⟨a1, n1, k1⟩, ⟨a2, n2, k2⟩, ⟨a3, n3, k3⟩, ⟨a4, n4, k4⟩⟩, h.below hb0, hb0, hL.below hb0⟩
  clear h hL hb0
  simp only
  have hn3 : n3 ≤ 1000000 := by have := H.out.2.1.h3.len; simp only at this; omega
  have K := Lib.hid (fun W (hd : DRd W ⟨⟨a1, n1, k1⟩, ⟨a2, n2, k2⟩, ⟨a3, n3, k3⟩, ⟨a4, n4, k4⟩⟩ d) => quoT_any ⟨a3, n3, k3⟩ d.ts W hd.h3 hp hn3)
  clear hp hn
  subst ht
  all_goals
    go_enter Tryz.func37, Tryz.ntmps37
    have d0 := H.out.1.1
    have d1 := H.out.1.2.1
    have d2 := H.out.1.2.2.1
    have d3 := H.out.1.2.2.2.1
    simp only at d0 d1 d2 d3
    go_wp2_with fail
    refine (K.out _ H.out.2.1).mono ?_
    rintro e w2 ⟨v, ys, rfl, H2⟩
    have HB2 := Lib.hid (H.out.2.2.1.trans (H2.out.2.2.mono H.out.2.2.1.size))
    go_wp2_with fail
    go_ret
    exact ⟨_, ys, rfl, H2.out.1.mono H.out.2.2.1.size, H2.out.2.1, HB2.out⟩
set_option maxRecDepth 100000 in
set_option maxHeartbeats 4000000 in
theorem tell_hash (t : Nat) (ht : xkn t = false) (x : DA) (d : Dat) (w : World) (h : DRd w x d) (hn : d.raw.length ≤ 65535) (hL : LayT w) :
    Calls Tryz.prog 37 #[.int .u16 t, .agg #[.slice x.p1.a x.p1.n x.p1.c, .slice x.p2.a x.p2.n x.p2.c, .slice x.p3.a x.p3.n x.p3.c, .slice x.p4.a x.p4.n x.p4.c]] w (TLPost (hashW d.raw) w) := by
  obtain ⟨⟨a1, n1, k1⟩, ⟨a2, n2, k2⟩, ⟨a3, n3, k3⟩, ⟨a4, n4, k4⟩⟩ := x
  have hb0 : Below w.heap.size w (w.alloc (.cells #[.slice a1 n1 k1, .slice a2 n2 k2, .slice a3 n3 k3, .slice a4 n4 k4] 29)) := (Below.refl _ _).alloc (Nat.le_refl _) _
  have H : Hid (DBox (w.alloc (.cells #[.slice a1 n1 k1, .slice a2 n2 k2, .slice a3 n3 k3, .slice a4 n4 k4] 29)) w.heap.size ⟨⟨a1, n1, k1⟩, ⟨a2, n2, k2⟩, ⟨a3, n3, k3⟩, ⟨a4, n4, k4⟩⟩ ∧ DRd (w.alloc (.cells #[.slice a1 n1 k1, .slice a2 n2 k2, .slice a3 n3 k3, .slice a4 n4 k4] 29)) ⟨⟨a1, n1, k1⟩, ⟨a2, n2, k2⟩, ⟨a3, n3, k3⟩, ⟨a4, n4, k4⟩⟩ d ∧ Below w.heap.size w (w.alloc (.cells #[.slice a1 n1 k1, .slice a2 n2 k2, .slice a3 n3 k3, .slice a4 n4 k4] 29)) ∧ LayT (w.alloc (.cells #[.slice a1 n1 k1, .slice a2 n2 k2, .slice a3 n3 k3, .slice a4 n4 k4] 29))) := ⟨DBox.new w ⟨⟨a1, n1, k1⟩, ⟨a2, n2, k2⟩, ⟨a3, n3, k3⟩, ⟨a4, n4, k4⟩⟩, h.below hb0, hb0, hL.below hb0⟩
  clear h hL hb0
  simp only
  have hn4 : n4 ≤ 65535 := by have := H.out.2.1.h4.len; simp only at this; omega
  have K := Lib.hid (fun W (hd : DRd W ⟨⟨a1, n1, k1⟩, ⟨a2, n2, k2⟩, ⟨a3, n3, k3⟩, ⟨a4, n4, k4⟩⟩ d) (hW : LayT W) => hashed_any a4 n4 k4 d.raw W hd.h4.rd hd.h4.len hn4 hW)
  clear hn
  have b1 : ((t : Int) == 1) = false := by (rw [beq_eq_false_iff_ne]; intro e; have e2 : t = 1 := (by omega); rw [e2] at ht; exact absurd ht (by decide))
  have b28 : ((t : Int) == 28) = false := by (rw [beq_eq_false_iff_ne]; intro e; have e2 : t = 28 := (by omega); rw [e2] at ht; exact absurd ht (by decide))
  have b2 : ((t : Int) == 2) = false := by (rw [beq_eq_false_iff_ne]; intro e; have e2 : t = 2 := (by omega); rw [e2] at ht; exact absurd ht (by decide))
  have b5 : ((t : Int) == 5) = false := by (rw [beq_eq_false_iff_ne]; intro e; have e2 : t = 5 := (by omega); rw [e2] at ht; exact absurd ht (by decide))
  have b12 : ((t : Int) == 12) = false := by (rw [beq_eq_false_iff_ne]; intro e; have e2 : t = 12 := (by omega); rw [e2] at ht; exact absurd ht (by decide))
  have b6 : ((t : Int) == 6) = false := by (rw [beq_eq_false_iff_ne]; intro e; have e2 : t = 6 := (by omega); rw [e2] at ht; exact absurd ht (by decide))
  have b15 : ((t : Int) == 15) = false := by (rw [beq_eq_false_iff_ne]; intro e; have e2 : t = 15 := (by omega); rw [e2] at ht; exact absurd ht (by decide))
  have b33 : ((t : Int) == 33) = false := by (rw [beq_eq_false_iff_ne]; intro e; have e2 : t = 33 := (by omega); rw [e2] at ht; exact absurd ht (by decide))
  have b16 : ((t : Int) == 16) = false := by (rw [beq_eq_false_iff_ne]; intro e; have e2 : t = 16 := (by omega); rw [e2] at ht; exact absurd ht (by decide))
  have b257 : ((t : Int) == 257) = false := by (rw [beq_eq_false_iff_ne]; intro e; have e2 : t = 257 := (by omega); rw [e2] at ht; exact absurd ht (by decide))
  clear ht
  all_goals
    go_enter Tryz.func37, Tryz.ntmps37
    have d0 := H.out.1.1
    have d1 := H.out.1.2.1
    have d2 := H.out.1.2.2.1
    have d3 := H.out.1.2.2.2.1
    simp only at d0 d1 d2 d3
    go_wp2_with fail
    refine (K.out _ H.out.2.1 H.out.2.2.2).mono ?_
    rintro e w2 ⟨v, ys, rfl, H2⟩
    have HB2 := Lib.hid (H.out.2.2.1.trans (H2.out.2.2.mono H.out.2.2.1.size))
    go_wp2_with fail
    go_ret
    exact ⟨_, ys, rfl, H2.out.1.mono H.out.2.2.1.size, H2.out.2.1, HB2.out⟩
end Go.Proofs.YtfkfjodfjgjbkaaGreatDoor
/- Data that are told in several pieces, as the program tells them. -/
namespace Go.Proofs.YtfkfjodfjgjbkaaGreatDoor
open Go.ChangeShapes Go.WideShapes Go.ChangeAt Go.RowKit
set_option linter.unusedVariables false
set_option linter.unusedSimpArgs false

theorem st_T {w : World} {ops : Array Oper} {o : Oper} {a : Act} {K : Act → World → Prop} {Q : Exit → Act → World → Prop} {E : Prop} (hgd : o.guard = none) (s x : Operand)
    (ho : o.op = .call { callee := .builtin .append, args := #[s, x], argTypes := #[26, 26] }) (B : Nat) (v : Value) (n : Nat) (ss l1 : List ByteArray) (hs : a.eval s = v) (hown : OwnT B w v n ss 1000000) (ht : ss.take n = l1)
    (ao : Option Addr) (m c : Nat) (ns : List ByteArray) (hx : a.eval x = .slice ao m c) (hr : RdT w ao ns) (hl : ns.length = m) (hM : ∀ s ∈ ns, s.size ≤ 1000000) (hb : n + m ≤ 1000000) (hB : B ≤ w.heap.size)
    (h : ∀ v' w' ys, Hid (OwnT B w' v' (n + m) ys 1000000 ∧ ys.take (n + m) = l1 ++ ns) → Hid (w.grownBy w' v.ownBlock) → K (a.put o.dst v') w') :
    if Region.wanted o (yielded ops a.tmps) = true then Oper.wp Tryz.prog o a w K Q else E := by
  refine step_append_row tyT hgd s x 26 ho B v n (tv ss) hs hown.1 (.slice ao m c) m (tv ns) hx (src_of Tryz.underlying26 hr (by rw [tv_len]; exact hl) (tv_one ns)) (by omega) (by simp only [maxLen]; omega) hB ?_
  intro v' w' xs' h1 h2 h3 h4
  obtain ⟨ys, rfl, hys⟩ := tv_of (M := 1000000) xs' (h4.out (QS 1000000) ⟨⟨#[]⟩, rfl, Nat.zero_le _⟩ (qs_tv hown.2) (qs_tv hM))
  refine h v' w' ys ⟨⟨h1.out, hys⟩, ?_⟩ h3
  have h2' := h2.out
  rw [tv_take, tv_take, ← tv_append, ht] at h2'
  exact tv_inj h2'
theorem OwnT.small {B : Nat} {w : World} {v : Value} {n : Nat} {ss l : List ByteArray} {M : Nat} (h : OwnT B w v n ss M) (ht : ss.take n = l) : ∀ s ∈ l, s.size ≤ M := by
  subst ht
  exact fun s hs => h.2 s (List.mem_of_mem_take hs)
/-- What stands behind a call that only makes. -/
theorem aftT {w W w2 : World} {b : Nat} {x : DA} {d : Dat} (h1 : DBox W b x) (h2 : DRd W x d) (h3 : Below w.heap.size w W) (h4 : LayT W) (h : Below W.drew.heap.size W.drew w2) : DBox w2 b x ∧ DRd w2 x d ∧ Below w.heap.size w w2 ∧ LayT w2 := by
  have hb : Below W.heap.size W w2 := ((Below.refl W.heap.size W).drew).trans h
  exact ⟨h1.below hb, h2.below hb, h3.trans (hb.mono h3.size), h4.below hb⟩
theorem two_up {w W w2 w3 : World} {v1 : Value} {ao2 : Option Addr} {l1 l2 y1 y2 : List ByteArray} {c2 : Nat} (hs : w.heap.size ≤ W.heap.size) (h1 : OwnT W.drew.heap.size w2 v1 l1.length y1 1000000) (h2 : y1.take l1.length = l1) (h3 : Below W.drew.heap.size W.drew w2)
    (h4 : OwnT w2.heap.size w3 (.slice ao2 l2.length c2) l2.length y2 1000000) (h5 : y2.take l2.length = l2) (h6 : Below w2.heap.size w2 w3) : OwnT w.heap.size w3 v1 l1.length y1 1000000 ∧ y1.take l1.length = l1 ∧ RdT w3 ao2 l2 ∧ (∀ s ∈ l2, s.size ≤ 1000000) ∧ w.heap.size ≤ w3.heap.size := by
  refine ⟨(h1.below h6).mono hs, h2, ?_, h4.small h5, Nat.le_trans hs (Nat.le_trans h3.size h6.size)⟩
  have := h4.rd l2.length
  rw [h5] at this
  exact this
set_option maxRecDepth 100000 in
set_option maxHeartbeats 4000000 in
theorem tell_soa (t : Nat) (ht : t = 6) (x : DA) (d : Dat) (w : World) (h : DRd w x d) (hp : ∀ n ∈ d.ns, nck n = 0) (hn : d.ns.length ≤ 1000) (hu : d.us.length ≤ 1000) (hL : LayT w) :
    Calls Tryz.prog 37 #[.int .u16 t, .agg #[.slice x.p1.a x.p1.n x.p1.c, .slice x.p2.a x.p2.n x.p2.c, .slice x.p3.a x.p3.n x.p3.c, .slice x.p4.a x.p4.n x.p4.c]] w (TLPost (d.ns.map (fun n => (ntext n).1) ++ d.us.map xnw) w) := by
  obtain ⟨⟨a1, n1, k1⟩, ⟨a2, n2, k2⟩, ⟨a3, n3, k3⟩, ⟨a4, n4, k4⟩⟩ := x
  have hb0 : Below w.heap.size w (w.alloc (.cells #[.slice a1 n1 k1, .slice a2 n2 k2, .slice a3 n3 k3, .slice a4 n4 k4] 29)) := (Below.refl _ _).alloc (Nat.le_refl _) _
  have H : Hid (DBox (w.alloc (.cells #[.slice a1 n1 k1, .slice a2 n2 k2, .slice a3 n3 k3, .slice a4 n4 k4] 29)) w.heap.size ⟨⟨a1, n1, k1⟩, ⟨a2, n2, k2⟩, ⟨a3, n3, k3⟩, ⟨a4, n4, k4⟩⟩ ∧ DRd (w.alloc (.cells #[.slice a1 n1 k1, .slice a2 n2 k2, .slice a3 n3 k3, .slice a4 n4 k4] 29)) ⟨⟨a1, n1, k1⟩, ⟨a2, n2, k2⟩, ⟨a3, n3, k3⟩, ⟨a4, n4, k4⟩⟩ d ∧ Below w.heap.size w (w.alloc (.cells #[.slice a1 n1 k1, .slice a2 n2 k2, .slice a3 n3 k3, .slice a4 n4 k4] 29)) ∧ LayT (w.alloc (.cells #[.slice a1 n1 k1, .slice a2 n2 k2, .slice a3 n3 k3, .slice a4 n4 k4] 29))) := ⟨DBox.new w ⟨⟨a1, n1, k1⟩, ⟨a2, n2, k2⟩, ⟨a3, n3, k3⟩, ⟨a4, n4, k4⟩⟩, h.below hb0, hb0, hL.below hb0⟩
  clear h hL hb0
  simp only
  have hn1 : n1 ≤ 1000 := by have := H.out.2.1.h1.len; simp only at this; omega
  have hn2 : n2 ≤ 1000 := by have := H.out.2.1.h2.len; simp only at this; omega
  have HLL : Hid (d.ns.length = n1 ∧ d.us.length = n2) := ⟨H.out.2.1.h1.len, H.out.2.1.h2.len⟩
  have KN := Lib.hid (fun W (hd : DRd W ⟨⟨a1, n1, k1⟩, ⟨a2, n2, k2⟩, ⟨a3, n3, k3⟩, ⟨a4, n4, k4⟩⟩ d) (_ : LayT W) => nameT_any ⟨a1, n1, k1⟩ d.ns W hd.h1 hp (show n1 ≤ 1000000 by omega))
  have KU := Lib.hid (fun W (hd : DRd W ⟨⟨a1, n1, k1⟩, ⟨a2, n2, k2⟩, ⟨a3, n3, k3⟩, ⟨a4, n4, k4⟩⟩ d) (hW : LayT W) => numT_any ⟨a2, n2, k2⟩ d.us W hd.h2 (show n2 ≤ 1000000 by omega) hW)
  clear hp hn hu
  have HSN : Hid ((d.ns.map (fun n => (ntext n).1)).length = n1) := by show _ = _; rw [List.length_map]; exact HLL.out.1
  have HSU : Hid ((d.us.map xnw).length = n2) := by show _ = _; rw [List.length_map]; exact HLL.out.2
  generalize d.ns.map (fun n => (ntext n).1) = lN at *
  generalize d.us.map xnw = lU at *
  subst ht
  all_goals
    go_enter Tryz.func37, Tryz.ntmps37
    have d0 := H.out.1.1
    have d1 := H.out.1.2.1
    have d2 := H.out.1.2.2.1
    have d3 := H.out.1.2.2.2.1
    simp only at d0 d1 d2 d3
    go_wp2_with fail
    generalize (w.alloc (.cells #[.slice a1 n1 k1, .slice a2 n2 k2, .slice a3 n3 k3, .slice a4 n4 k4] 29)) = wa at *
    go_region_law (first
      | (refine st_T rfl _ _ rfl w.heap.size _ lN.length y1 lN rfl H4.out.1 H4.out.2.1 ao2 lU.length y2.length lU rfl H4.out.2.2.1 rfl H4.out.2.2.2.1 (by have := HSN.out; have := HSU.out; omega) H4.out.2.2.2.2 ?_; intro v' w' ys' hO' hG')
      | (go_simp; go_at_call 67; refine (KN.out _ (H.out.2.1.below (Below.refl _ _).drew) (H.out.2.2.2.below (Below.refl _ _).drew)).mono ?_; rintro e w2 ⟨v1, y1, rfl, H2⟩; have HA := Lib.hid (aftT H.out.1 H.out.2.1 H.out.2.2.1 H.out.2.2.2 H2.out.2.2); have e0 := HA.out.1.1; have e1 := HA.out.1.2.1; have e2 := HA.out.1.2.2.1; have e3 := HA.out.1.2.2.2.1; simp only at e0 e1 e2 e3; obtain ⟨ao1, rfl, -⟩ := H2.out.1.shape)
      | (go_simp; go_at_call 68; refine (KU.out _ HA.out.2.1 HA.out.2.2.2).mono ?_; rintro e w3 ⟨v2, y2, rfl, H3⟩; obtain ⟨ao2, rfl, -⟩ := H3.out.1.shape; have H4 := Lib.hid (two_up H.out.2.2.1.size H2.out.1 H2.out.2.1 H2.out.2.2 H3.out.1 H3.out.2.1 H3.out.2.2)))
    all_goals
      have HB3 := Lib.hid (HA.out.2.2.1.trans (H3.out.2.2.mono HA.out.2.2.1.size))
      have hrow := H4.out.1.1.lt
      go_wp2
      go_ret
      refine ⟨_, ys', rfl, ?_, ?_, HB3.out.grown hG'.out HB3.out.size hrow⟩
      · rw [List.length_append]; exact hO'.out.1
      · rw [List.length_append]; exact hO'.out.2
set_option maxRecDepth 100000 in
set_option maxHeartbeats 4000000 in
theorem tell_mx (t : Nat) (ht : t = 15 ∨ t = 33) (x : DA) (d : Dat) (w : World) (h : DRd w x d) (hp : ∀ n ∈ d.ns, nck n = 0) (hn : d.ns.length ≤ 1000) (hu : d.us.length ≤ 1000) (hL : LayT w) :
    Calls Tryz.prog 37 #[.int .u16 t, .agg #[.slice x.p1.a x.p1.n x.p1.c, .slice x.p2.a x.p2.n x.p2.c, .slice x.p3.a x.p3.n x.p3.c, .slice x.p4.a x.p4.n x.p4.c]] w (TLPost (d.us.map xnw ++ d.ns.map (fun n => (ntext n).1)) w) := by
  obtain ⟨⟨a1, n1, k1⟩, ⟨a2, n2, k2⟩, ⟨a3, n3, k3⟩, ⟨a4, n4, k4⟩⟩ := x
  have hb0 : Below w.heap.size w (w.alloc (.cells #[.slice a1 n1 k1, .slice a2 n2 k2, .slice a3 n3 k3, .slice a4 n4 k4] 29)) := (Below.refl _ _).alloc (Nat.le_refl _) _
  have H : Hid (DBox (w.alloc (.cells #[.slice a1 n1 k1, .slice a2 n2 k2, .slice a3 n3 k3, .slice a4 n4 k4] 29)) w.heap.size ⟨⟨a1, n1, k1⟩, ⟨a2, n2, k2⟩, ⟨a3, n3, k3⟩, ⟨a4, n4, k4⟩⟩ ∧ DRd (w.alloc (.cells #[.slice a1 n1 k1, .slice a2 n2 k2, .slice a3 n3 k3, .slice a4 n4 k4] 29)) ⟨⟨a1, n1, k1⟩, ⟨a2, n2, k2⟩, ⟨a3, n3, k3⟩, ⟨a4, n4, k4⟩⟩ d ∧ Below w.heap.size w (w.alloc (.cells #[.slice a1 n1 k1, .slice a2 n2 k2, .slice a3 n3 k3, .slice a4 n4 k4] 29)) ∧ LayT (w.alloc (.cells #[.slice a1 n1 k1, .slice a2 n2 k2, .slice a3 n3 k3, .slice a4 n4 k4] 29))) := ⟨DBox.new w ⟨⟨a1, n1, k1⟩, ⟨a2, n2, k2⟩, ⟨a3, n3, k3⟩, ⟨a4, n4, k4⟩⟩, h.below hb0, hb0, hL.below hb0⟩
  clear h hL hb0
  simp only
  have hn1 : n1 ≤ 1000 := by have := H.out.2.1.h1.len; simp only at this; omega
  have hn2 : n2 ≤ 1000 := by have := H.out.2.1.h2.len; simp only at this; omega
  have HLL : Hid (d.ns.length = n1 ∧ d.us.length = n2) := ⟨H.out.2.1.h1.len, H.out.2.1.h2.len⟩
  have KN := Lib.hid (fun W (hd : DRd W ⟨⟨a1, n1, k1⟩, ⟨a2, n2, k2⟩, ⟨a3, n3, k3⟩, ⟨a4, n4, k4⟩⟩ d) (_ : LayT W) => nameT_any ⟨a1, n1, k1⟩ d.ns W hd.h1 hp (show n1 ≤ 1000000 by omega))
  have KU := Lib.hid (fun W (hd : DRd W ⟨⟨a1, n1, k1⟩, ⟨a2, n2, k2⟩, ⟨a3, n3, k3⟩, ⟨a4, n4, k4⟩⟩ d) (hW : LayT W) => numT_any ⟨a2, n2, k2⟩ d.us W hd.h2 (show n2 ≤ 1000000 by omega) hW)
  clear hp hn hu
  have HSN : Hid ((d.ns.map (fun n => (ntext n).1)).length = n1) := by show _ = _; rw [List.length_map]; exact HLL.out.1
  have HSU : Hid ((d.us.map xnw).length = n2) := by show _ = _; rw [List.length_map]; exact HLL.out.2
  generalize d.ns.map (fun n => (ntext n).1) = lN at *
  generalize d.us.map xnw = lU at *
  rcases ht with rfl | rfl
  all_goals
    go_enter Tryz.func37, Tryz.ntmps37
    have d0 := H.out.1.1
    have d1 := H.out.1.2.1
    have d2 := H.out.1.2.2.1
    have d3 := H.out.1.2.2.2.1
    simp only at d0 d1 d2 d3
    go_wp2_with fail
    generalize (w.alloc (.cells #[.slice a1 n1 k1, .slice a2 n2 k2, .slice a3 n3 k3, .slice a4 n4 k4] 29)) = wa at *
    go_region_law (first
      | (refine st_T rfl _ _ rfl w.heap.size _ lU.length y1 lU rfl H4.out.1 H4.out.2.1 ao2 lN.length y2.length lN rfl H4.out.2.2.1 rfl H4.out.2.2.2.1 (by have := HSN.out; have := HSU.out; omega) H4.out.2.2.2.2 ?_; intro v' w' ys' hO' hG')
      | (go_simp; go_at_call 68; refine (KU.out _ (H.out.2.1.below (Below.refl _ _).drew) (H.out.2.2.2.below (Below.refl _ _).drew)).mono ?_; rintro e w2 ⟨v1, y1, rfl, H2⟩; have HA := Lib.hid (aftT H.out.1 H.out.2.1 H.out.2.2.1 H.out.2.2.2 H2.out.2.2); have e0 := HA.out.1.1; have e1 := HA.out.1.2.1; have e2 := HA.out.1.2.2.1; have e3 := HA.out.1.2.2.2.1; simp only at e0 e1 e2 e3; obtain ⟨ao1, rfl, -⟩ := H2.out.1.shape)
      | (go_simp; go_at_call 67; refine (KN.out _ HA.out.2.1 HA.out.2.2.2).mono ?_; rintro e w3 ⟨v2, y2, rfl, H3⟩; obtain ⟨ao2, rfl, -⟩ := H3.out.1.shape; have H4 := Lib.hid (two_up H.out.2.2.1.size H2.out.1 H2.out.2.1 H2.out.2.2 H3.out.1 H3.out.2.1 H3.out.2.2)))
    all_goals
      have HB3 := Lib.hid (HA.out.2.2.1.trans (H3.out.2.2.mono HA.out.2.2.1.size))
      have hrow := H4.out.1.1.lt
      go_wp2
      go_ret
      refine ⟨_, ys', rfl, ?_, ?_, HB3.out.grown hG'.out HB3.out.size hrow⟩
      · rw [List.length_append]; exact hO'.out.1
      · rw [List.length_append]; exact hO'.out.2
end Go.Proofs.YtfkfjodfjgjbkaaGreatDoor
/- Data of CAA as words; words and text of any data, as the program tells them. -/
namespace Go.Proofs.YtfkfjodfjgjbkaaGreatDoor
open Go.ChangeShapes Go.WideShapes Go.ChangeAt Go.RowKit
set_option linter.unusedVariables false
set_option linter.unusedSimpArgs false

theorem two_rdT (w : World) (s t : ByteArray) : RdT (w.alloc (.cells #[.string s, .string t] 9)) (some ⟨w.heap.size, 0, none⟩) [s, t] := by
  have := (show BlkV (w.alloc (.cells (tv [s, t]).toArray 9)) w.heap.size 9 (tv [s, t]) from heap_alloc_new _ _).rd 2
  exact this
theorem own_up {wa w2 w3 : World} {v : Value} {n : Nat} {ys : List ByteArray} (h1 : OwnT wa.drew.heap.size w2 v n ys 1000000) (h2 : Below wa.heap.size wa w2) (h3 : Below w2.heap.size w2 w3) (a b : ByteArray) : OwnT wa.heap.size (w3.alloc (.cells #[.string a, .string b] 9)) v n ys 1000000 ∧ wa.heap.size ≤ (w3.alloc (.cells #[.string a, .string b] 9)).heap.size ∧ Below wa.heap.size wa (w3.alloc (.cells #[.string a, .string b] 9)) := by
  have h4 : Below w3.heap.size w3 (w3.alloc (.cells #[.string a, .string b] 9)) := (Below.refl _ _).alloc (Nat.le_refl _) _
  have h5 : Below wa.heap.size wa w3 := h2.trans (h3.mono h2.size)
  exact ⟨(h1.below h3).below h4, Nat.le_trans h5.size h4.size, h5.trans (h4.mono h5.size)⟩
set_option maxRecDepth 100000 in
set_option maxHeartbeats 4000000 in
theorem tell_caa (t : Nat) (ht : t = 257) (x : DA) (d : Dat) (w : World) (h : DRd w x d) (hu : d.us.length ≤ 1000) (s0 s1 : ByteArray) (hts : d.ts = [s0, s1]) (hz0 : s0.size ≤ 200000) (hz1 : s1.size ≤ 200000) (hL : LayT w) :
    Calls Tryz.prog 37 #[.int .u16 t, .agg #[.slice x.p1.a x.p1.n x.p1.c, .slice x.p2.a x.p2.n x.p2.c, .slice x.p3.a x.p3.n x.p3.c, .slice x.p4.a x.p4.n x.p4.c]] w (TLPost (d.us.map xnw ++ xtw 257 d.ts) w) := by
  obtain ⟨⟨a1, n1, k1⟩, ⟨a2, n2, k2⟩, ⟨a3, n3, k3⟩, ⟨a4, n4, k4⟩⟩ := x
  have hb0 : Below w.heap.size w (w.alloc (.cells #[.slice a1 n1 k1, .slice a2 n2 k2, .slice a3 n3 k3, .slice a4 n4 k4] 29)) := (Below.refl _ _).alloc (Nat.le_refl _) _
  have H : Hid (DBox (w.alloc (.cells #[.slice a1 n1 k1, .slice a2 n2 k2, .slice a3 n3 k3, .slice a4 n4 k4] 29)) w.heap.size ⟨⟨a1, n1, k1⟩, ⟨a2, n2, k2⟩, ⟨a3, n3, k3⟩, ⟨a4, n4, k4⟩⟩ ∧ DRd (w.alloc (.cells #[.slice a1 n1 k1, .slice a2 n2 k2, .slice a3 n3 k3, .slice a4 n4 k4] 29)) ⟨⟨a1, n1, k1⟩, ⟨a2, n2, k2⟩, ⟨a3, n3, k3⟩, ⟨a4, n4, k4⟩⟩ d ∧ Below w.heap.size w (w.alloc (.cells #[.slice a1 n1 k1, .slice a2 n2 k2, .slice a3 n3 k3, .slice a4 n4 k4] 29)) ∧ LayT (w.alloc (.cells #[.slice a1 n1 k1, .slice a2 n2 k2, .slice a3 n3 k3, .slice a4 n4 k4] 29))) := ⟨DBox.new w ⟨⟨a1, n1, k1⟩, ⟨a2, n2, k2⟩, ⟨a3, n3, k3⟩, ⟨a4, n4, k4⟩⟩, h.below hb0, hb0, hL.below hb0⟩
  clear h hL hb0
  simp only
  have hn2 : n2 ≤ 1000 := by have := H.out.2.1.h2.len; simp only at this; omega
  have hn3 : n3 = 2 := by have := H.out.2.1.h3.len; simp only at this; rw [hts] at this; exact this.symm
  subst hn3
  have HT3 := Lib.hid H.out.2.1.h3
  rw [hts] at HT3
  obtain ⟨b3, o3, hbo, hb3, c0⟩ := HT3.out.rd.at 0 (by simp)
  obtain ⟨b3', o3', hbo', hb3', c1⟩ := HT3.out.rd.at 1 (by simp)
  simp only at hbo hbo'
  rw [hbo] at hbo'
  injection hbo' with hbo'
  injection hbo' with e1 e2
  subst e1; subst e2
  subst hbo
  clear hb3'
  simp only [List.getElem_cons_zero, List.getElem_cons_succ, Nat.add_zero] at c0 c1
  have HSU : Hid ((d.us.map xnw).length = n2) := by show _ = _; rw [List.length_map]; exact H.out.2.1.h2.len
  have KU := Lib.hid (fun W (hd : DRd W ⟨⟨a1, n1, k1⟩, ⟨a2, n2, k2⟩, ⟨some ⟨b3, o3, none⟩, 2, k3⟩, ⟨a4, n4, k4⟩⟩ d) (hW : LayT W) => numT_any ⟨a2, n2, k2⟩ d.us W hd.h2 (show n2 ≤ 1000000 by omega) hW)
  have KQ := Lib.hid (fun W => quote_any s1 W (by omega))
  have hq : (xqw s1).size ≤ 1000000 := by have := xqw_size s1; omega
  have e257 : xtw 257 d.ts = [s0, xqw s1] := by rw [hts]; rfl
  rw [e257]
  clear hu e257 hts HT3
  generalize d.us.map xnw = lU at *
  generalize xqw s1 = q at *
  subst ht
  have C3 := Lib.hid (⟨c0, c1, hb3⟩ : _ ∧ _ ∧ _)
  go_enter Tryz.func37, Tryz.ntmps37
  have d0 := H.out.1.1
  have d1 := H.out.1.2.1
  have d2 := H.out.1.2.2.1
  have d3 := H.out.1.2.2.2.1
  simp only at d0 d1 d2 d3
  go_wp2_with fail
  generalize (w.alloc (.cells #[.slice a1 n1 k1, .slice a2 n2 k2, .slice (some ⟨b3, o3, none⟩) 2 k3, .slice a4 n4 k4] 29)) = wa at *
  have hbx : w.heap.size < wa.heap.size := H.out.1.2.2.2.2
  have HSC : Hid (∀ W, Below wa.heap.size wa W → W.cell? ⟨w.heap.size, 1, none⟩ = some (.slice a2 n2 k2) ∧ W.cell? ⟨w.heap.size, 2, none⟩ = some (.slice (some ⟨b3, o3, none⟩) 2 k3) ∧ W.cell? ⟨b3, o3, none⟩ = some (.string s0) ∧ W.cell? ⟨b3, o3 + 1, none⟩ = some (.string s1)) := fun W hW => ⟨(hW.cell (p := ⟨w.heap.size, 1, none⟩) hbx).trans d1, (hW.cell (p := ⟨w.heap.size, 2, none⟩) hbx).trans d2, (hW.cell (p := ⟨b3, o3, none⟩) C3.out.2.2).trans C3.out.1, (hW.cell (p := ⟨b3, o3 + 1, none⟩) C3.out.2.2).trans C3.out.2.1⟩
  have HDD : Hid (∀ W, Below wa.heap.size wa W → DRd W ⟨⟨a1, n1, k1⟩, ⟨a2, n2, k2⟩, ⟨some ⟨b3, o3, none⟩, 2, k3⟩, ⟨a4, n4, k4⟩⟩ d ∧ LayT W) := fun W hW => ⟨H.out.2.1.below hW, H.out.2.2.2.below hW⟩
  have HWA : Hid (Below w.heap.size w wa) := H.out.2.2.1
  clear d0 d3 H C3
  go_region_held3 (fun W => W.cell? ⟨w.heap.size, 1, none⟩ = some (.slice a2 n2 k2) ∧ W.cell? ⟨w.heap.size, 2, none⟩ = some (.slice (some ⟨b3, o3, none⟩) 2 k3) ∧ W.cell? ⟨b3, o3, none⟩ = some (.string s0) ∧ W.cell? ⟨b3, o3 + 1, none⟩ = some (.string s1)) (exact ⟨by go_keep, by go_keep, by go_keep, by go_keep⟩) (first
    | (go_at_call 68; refine (KU.out _ (HDD.out _ (Below.refl _ _).drew).1 (HDD.out _ (Below.refl _ _).drew).2).mono ?_; rintro e w2 ⟨v1, y1, rfl, H2⟩; have HB2 : Hid (Below wa.heap.size wa w2) := (Below.refl wa.heap.size wa).drew.trans H2.out.2.2; obtain ⟨e1, e2, e3, e4⟩ := HSC.out w2 HB2.out; obtain ⟨ao1, rfl, -⟩ := H2.out.1.shape)
    | (go_at_call 18; refine (KQ.out _).mono ?_; rintro e w3 ⟨rfl, H3⟩; have HB3 : Hid (Below wa.heap.size wa w3) := HB2.out.trans (H3.out.mono HB2.out.size); obtain ⟨f1, f2, f3, f4⟩ := HSC.out w3 HB3.out; have H5 : Hid (OwnT wa.heap.size (w3.alloc (.cells #[.string s0, .string q] 9)) (.slice ao1 lU.length y1.length) lU.length y1 1000000 ∧ wa.heap.size ≤ (w3.alloc (.cells #[.string s0, .string q] 9)).heap.size ∧ Below wa.heap.size wa (w3.alloc (.cells #[.string s0, .string q] 9))) := own_up H2.out.1 HB2.out H3.out s0 q; obtain ⟨i1, i2, i3, i4⟩ := HSC.out _ H5.out.2.2)
    | (refine st_T rfl _ _ rfl wa.heap.size _ lU.length y1 lU rfl H5.out.1 H2.out.2.1 (some ⟨w3.heap.size, 0, none⟩) 2 2 [s0, q] rfl (two_rdT w3 s0 q) rfl (by intro s hs; simp at hs; rcases hs with rfl | rfl <;> omega) (by have := HSU.out; omega) H5.out.2.1 ?_; intro v' w' ys' hO' hG'; have HB5 : Hid (Below wa.heap.size wa w') := H5.out.2.2.grown hG'.out H5.out.2.1 H5.out.1.1.lt; obtain ⟨j1, j2, j3, j4⟩ := HSC.out w' HB5.out))
  all_goals
    go_wp2
    go_ret
    refine ⟨_, ys', rfl, ?_, ?_, HWA.out.trans (HB5.out.mono HWA.out.size)⟩
    · rw [List.length_append]; exact hO'.out.1.mono HWA.out.size
    · rw [List.length_append]; exact hO'.out.2
end Go.Proofs.YtfkfjodfjgjbkaaGreatDoor
/- Words and text of any data, as the program tells them. -/
namespace Go.Proofs.YtfkfjodfjgjbkaaGreatDoor
open Go.ChangeShapes Go.WideShapes Go.ChangeAt Go.RowKit
set_option linter.unusedVariables false
set_option linter.unusedSimpArgs false

theorem tell_any (t : Nat) (x : DA) (d : Dat) (w : World) (h : DRd w x d) (hc : checkF t d = 0) (hB : Bd d) (hL : LayT w) :
    Calls Tryz.prog 37 #[.int .u16 t, .agg #[.slice x.p1.a x.p1.n x.p1.c, .slice x.p2.a x.p2.n x.p2.c, .slice x.p3.a x.p3.n x.p3.c, .slice x.p4.a x.p4.n x.p4.c]] w (TLPost (xwords t d) w) := by
  obtain ⟨hm, hf, hn, hz⟩ := check_parts hc
  have hns := hB.n
  have hus := hB.u
  have hrl : d.raw.length ≤ 65535 := by unfold sizesF at hz; omega
  unfold fitsB at hf
  simp only [Bool.and_eq_true, decide_eq_true_eq, Bool.or_eq_true, List.all_eq_true] at hf
  obtain ⟨⟨⟨⟨⟨⟨⟨f1, f2⟩, f3⟩, f4⟩, f5⟩, f6⟩, f7⟩, f8⟩ := hf
  rcases shp_cases t with ⟨ht, e⟩ | ⟨ht, e⟩ | ⟨ht, e⟩ | ⟨ht, e⟩ | ⟨ht, e⟩ | ⟨ht, e⟩ | ⟨ht, e⟩ | ⟨ht, e⟩ | ⟨ht, e⟩
  all_goals rw [e] at f1 f2 f3 f4 f5 f6
  all_goals simp only at f1 f2 f3 f4 f5 f6
  · have hx : xwords t d = [lb ((xaddr d.raw).getD [])] := by unfold xwords; rw [if_pos (.inl ht)]
    rw [hx]
    exact tell_addr t (.inl ht) x d w h (.inl (by omega)) hL
  · have hx : xwords t d = [lb ((xaddr d.raw).getD [])] := by unfold xwords; rw [if_pos (.inr ht)]
    rw [hx]
    exact tell_addr t (.inr ht) x d w h (.inr (by omega)) hL
  · have e2 : d.us = [] := List.length_eq_zero_iff.1 f2
    have e3 : d.ts = [] := List.length_eq_zero_iff.1 (by omega)
    have hx : xwords t d = d.ns.map (fun n => (ntext n).1) := by
      unfold xwords
      rw [if_neg (by omega), if_neg (by rcases ht with rfl | rfl | rfl <;> decide), if_neg (by omega), e2, e3]
      unfold xtw
      rw [if_neg (by omega)]
      simp
    rw [hx]
    exact tell_names t ht x d w h hn hns hL
  · have hx : xwords t d = d.ns.map (fun n => (ntext n).1) ++ d.us.map xnw := by
      subst ht
      unfold xwords
      rw [if_neg (by omega), if_neg (by decide), if_pos rfl]
    rw [hx]
    exact tell_soa t ht x d w h hn hns hus hL
  · have e3 : d.ts = [] := List.length_eq_zero_iff.1 (by omega)
    have hx : xwords t d = d.us.map xnw ++ d.ns.map (fun n => (ntext n).1) := by
      subst ht
      unfold xwords
      rw [if_neg (by omega), if_neg (by decide), if_neg (by omega), e3]
      unfold xtw
      rw [if_neg (by omega)]
      simp
    rw [hx]
    exact tell_mx t (.inl ht) x d w h hn hns hus hL
  · have e3 : d.ts = [] := List.length_eq_zero_iff.1 (by omega)
    have hx : xwords t d = d.us.map xnw ++ d.ns.map (fun n => (ntext n).1) := by
      subst ht
      unfold xwords
      rw [if_neg (by omega), if_neg (by decide), if_neg (by omega), e3]
      unfold xtw
      rw [if_neg (by omega)]
      simp
    rw [hx]
    exact tell_mx t (.inr ht) x d w h hn hns hus hL
  · have e1 : d.ns = [] := List.length_eq_zero_iff.1 f1
    have e2 : d.us = [] := List.length_eq_zero_iff.1 f2
    have hx : xwords t d = d.ts.map xqw := by
      subst ht
      unfold xwords
      rw [if_neg (by omega), if_neg (by decide), if_neg (by omega), e1, e2]
      unfold xtw
      rw [if_neg (by omega)]
      simp
    have h7 : ∀ s ∈ d.ts, s.size ≤ 255 := by
      rcases f7 with h | h
      · exact absurd ht h
      · exact h
    have hl : d.ts.length ≤ 65535 := by
      have h1 : tsz t d.ts ≤ 65535 := by unfold sizesF at hz; omega
      unfold tsz at h1
      rw [if_pos ht] at h1
      have h2 := nby_len d.ts
      have h3 := nsz_len d.ts
      omega
    rw [hx]
    exact tell_txt t ht x d w h (fun s hs => by have := h7 s hs; omega) (by omega) hL
  · match hts : d.ts, f3 with
    | [s0, s1], _ =>
      have hx : xwords t d = d.us.map xnw ++ xtw 257 d.ts := by
        have e1 : d.ns = [] := List.length_eq_zero_iff.1 f1
        subst ht
        unfold xwords
        rw [if_neg (by omega), if_neg (by decide), if_neg (by omega), e1]
        simp
      have h1 : tsz t d.ts ≤ 65535 := by unfold sizesF at hz; omega
      unfold tsz at h1
      rw [if_neg (by omega), hts] at h1
      simp only [List.flatMap_cons, List.flatMap_nil, List.append_nil, nums_len] at h1
      rw [hx]
      exact tell_caa t ht x d w h hus s0 s1 hts (by omega) (by omega) hL
    | [], f3 => simp at f3
    | [a], f3 => simp at f3
    | a :: b :: c :: r, f3 => simp at f3; omega
  · obtain ⟨h1, h2, h3, h4, h5, h6, h7, h8, h9, h10⟩ := ht
    have hk : xkn t = false := by simp [xkn, h1, h2, h3, h4, h5, h6, h7, h8, h9, h10]
    have hx : xwords t d = hashW d.raw := by
      unfold xwords hashW
      rw [if_neg (by omega), if_pos hk]
    rw [hx]
    exact tell_hash t hk x d w h hrl hL

def wordsR (t : Nat) (d : Dat) : List ByteArray := if checkF t d = 0 then xwords t d else []
def textR (t : Nat) (d : Dat) : ByteArray := lb (xjoin 32 ((wordsR t d).map nums))
def WdPost (t : Nat) (d : Dat) (w : World) (e : Ending) (w' : World) : Prop :=
  ∃ v ys, e = .returned (.tuple #[v, .int .i64 (checkF t d)]) ∧ Hid (OwnT w.heap.size w' v (wordsR t d).length ys 1000000 ∧ ys.take (wordsR t d).length = wordsR t d ∧ Below w.heap.size w w')
set_option maxRecDepth 100000 in
set_option maxHeartbeats 2000000 in
theorem words_any (t : Nat) (x : DA) (d : Dat) (w : World) (h : DRd w x d) (hB : Bd d) (hL : LayT w) :
    Calls Tryz.prog 11 #[.int .u16 t, .agg #[.slice x.p1.a x.p1.n x.p1.c, .slice x.p2.a x.p2.n x.p2.c, .slice x.p3.a x.p3.n x.p3.c, .slice x.p4.a x.p4.n x.p4.c]] w (WdPost t d w) := by
  obtain ⟨⟨a1, n1, k1⟩, ⟨a2, n2, k2⟩, ⟨a3, n3, k3⟩, ⟨a4, n4, k4⟩⟩ := x
  have hb0 : Below w.heap.size w (w.alloc (.cells #[.slice a1 n1 k1, .slice a2 n2 k2, .slice a3 n3 k3, .slice a4 n4 k4] 29)) := (Below.refl _ _).alloc (Nat.le_refl _) _
  have H : Hid (DBox (w.alloc (.cells #[.slice a1 n1 k1, .slice a2 n2 k2, .slice a3 n3 k3, .slice a4 n4 k4] 29)) w.heap.size ⟨⟨a1, n1, k1⟩, ⟨a2, n2, k2⟩, ⟨a3, n3, k3⟩, ⟨a4, n4, k4⟩⟩ ∧ DRd (w.alloc (.cells #[.slice a1 n1 k1, .slice a2 n2 k2, .slice a3 n3 k3, .slice a4 n4 k4] 29)) ⟨⟨a1, n1, k1⟩, ⟨a2, n2, k2⟩, ⟨a3, n3, k3⟩, ⟨a4, n4, k4⟩⟩ d ∧ Below w.heap.size w (w.alloc (.cells #[.slice a1 n1 k1, .slice a2 n2 k2, .slice a3 n3 k3, .slice a4 n4 k4] 29)) ∧ LayT (w.alloc (.cells #[.slice a1 n1 k1, .slice a2 n2 k2, .slice a3 n3 k3, .slice a4 n4 k4] 29))) := ⟨DBox.new w ⟨⟨a1, n1, k1⟩, ⟨a2, n2, k2⟩, ⟨a3, n3, k3⟩, ⟨a4, n4, k4⟩⟩, h.below hb0, hb0, hL.below hb0⟩
  have KC := Lib.hid (fun W (hd : DRd W ⟨⟨a1, n1, k1⟩, ⟨a2, n2, k2⟩, ⟨a3, n3, k3⟩, ⟨a4, n4, k4⟩⟩ d) => check_any t ⟨⟨a1, n1, k1⟩, ⟨a2, n2, k2⟩, ⟨a3, n3, k3⟩, ⟨a4, n4, k4⟩⟩ d W hd hB)
  have KT := Lib.hid (fun (hc : checkF t d = 0) W (hd : DRd W ⟨⟨a1, n1, k1⟩, ⟨a2, n2, k2⟩, ⟨a3, n3, k3⟩, ⟨a4, n4, k4⟩⟩ d) (hW : LayT W) => tell_any t ⟨⟨a1, n1, k1⟩, ⟨a2, n2, k2⟩, ⟨a3, n3, k3⟩, ⟨a4, n4, k4⟩⟩ d W hd hc hB hW)
  clear h hL hb0 hB
  simp only at KC KT ⊢
  have HWR : Hid (wordsR t d = if checkF t d = 0 then xwords t d else []) := rfl
  obtain ⟨C, hC⟩ : ∃ C, checkF t d = C := ⟨_, rfl⟩
  have HC : Hid (checkF t d = C) := hC
  rw [hC] at KC KT HWR
  clear hC
  go_enter Tryz.func11, Tryz.ntmps11
  have d0 := H.out.1.1
  have d1 := H.out.1.2.1
  have d2 := H.out.1.2.2.1
  have d3 := H.out.1.2.2.2.1
  simp only at d0 d1 d2 d3
  go_wp2_with fail
  generalize (w.alloc (.cells #[.slice a1 n1 k1, .slice a2 n2 k2, .slice a3 n3 k3, .slice a4 n4 k4] 29)) = wa at *
  refine (KC.out _ H.out.2.1).mono ?_
  rintro e w2 ⟨rfl, H2⟩
  have HA := Lib.hid (⟨H.out.1.below H2.out, H.out.2.1.below H2.out, H.out.2.2.1.trans (H2.out.mono H.out.2.2.1.size), H.out.2.2.2.below H2.out⟩ : DBox w2 _ _ ∧ DRd w2 _ _ ∧ Below w.heap.size w w2 ∧ LayT w2)
  clear d0 d1 d2 d3 H2 H KC
  by_cases h0 : C = 0
  · subst h0
    rw [if_pos rfl] at HWR
    have d0 := HA.out.1.1
    have d1 := HA.out.1.2.1
    have d2 := HA.out.1.2.2.1
    have d3 := HA.out.1.2.2.2.1
    simp only at d0 d1 d2 d3
    go_wp2_with fail
    refine (KT.out (by first | rfl | trivial) _ HA.out.2.1 HA.out.2.2.2).mono ?_
    rintro e w3 ⟨v, ys, rfl, H3⟩
    have HB3 := Lib.hid (HA.out.2.2.1.trans (H3.out.2.2.mono HA.out.2.2.1.size))
    go_wp2_with fail
    go_ret2
    refine ⟨_, ys, by rw [HC.out]; rfl, ?_⟩
    rw [HWR.out]
    exact ⟨H3.out.1.mono HA.out.2.2.1.size, H3.out.2.1, HB3.out⟩
  · have h0' : (C != 0) = true := by simp [h0]
    rw [if_neg h0] at HWR
    go_wp2_with fail
    go_ret2
    refine ⟨.slice none 0 0, [], by rw [HC.out]; rfl, ?_⟩
    rw [HWR.out]
    exact ⟨OwnT.nil _ _ _, rfl, HA.out.2.2.1⟩
set_option maxRecDepth 100000 in
set_option maxHeartbeats 2000000 in
theorem text13_any (t : Nat) (x : DA) (d : Dat) (w : World) (h : DRd w x d) (hB : Bd d) (hL : LayT w) (hlw : (wordsR t d).length ≤ 100000) :
    Calls Tryz.prog 13 #[.int .u16 t, .agg #[.slice x.p1.a x.p1.n x.p1.c, .slice x.p2.a x.p2.n x.p2.c, .slice x.p3.a x.p3.n x.p3.c, .slice x.p4.a x.p4.n x.p4.c]] w fun e w' => e = .returned (.tuple #[.string (textR t d), .int .i64 (checkF t d)]) ∧ Hid (Below w.heap.size w w') := by
  obtain ⟨⟨a1, n1, k1⟩, ⟨a2, n2, k2⟩, ⟨a3, n3, k3⟩, ⟨a4, n4, k4⟩⟩ := x
  have hb0 : Below w.heap.size w (w.alloc (.cells #[.slice a1 n1 k1, .slice a2 n2 k2, .slice a3 n3 k3, .slice a4 n4 k4] 29)) := (Below.refl _ _).alloc (Nat.le_refl _) _
  have H : Hid (DBox (w.alloc (.cells #[.slice a1 n1 k1, .slice a2 n2 k2, .slice a3 n3 k3, .slice a4 n4 k4] 29)) w.heap.size ⟨⟨a1, n1, k1⟩, ⟨a2, n2, k2⟩, ⟨a3, n3, k3⟩, ⟨a4, n4, k4⟩⟩ ∧ DRd (w.alloc (.cells #[.slice a1 n1 k1, .slice a2 n2 k2, .slice a3 n3 k3, .slice a4 n4 k4] 29)) ⟨⟨a1, n1, k1⟩, ⟨a2, n2, k2⟩, ⟨a3, n3, k3⟩, ⟨a4, n4, k4⟩⟩ d ∧ Below w.heap.size w (w.alloc (.cells #[.slice a1 n1 k1, .slice a2 n2 k2, .slice a3 n3 k3, .slice a4 n4 k4] 29)) ∧ LayT (w.alloc (.cells #[.slice a1 n1 k1, .slice a2 n2 k2, .slice a3 n3 k3, .slice a4 n4 k4] 29))) := ⟨DBox.new w ⟨⟨a1, n1, k1⟩, ⟨a2, n2, k2⟩, ⟨a3, n3, k3⟩, ⟨a4, n4, k4⟩⟩, h.below hb0, hb0, hL.below hb0⟩
  have KC := Lib.hid (words_any t ⟨⟨a1, n1, k1⟩, ⟨a2, n2, k2⟩, ⟨a3, n3, k3⟩, ⟨a4, n4, k4⟩⟩ d (w.alloc (.cells #[.slice a1 n1 k1, .slice a2 n2 k2, .slice a3 n3 k3, .slice a4 n4 k4] 29)) H.out.2.1 hB H.out.2.2.2)
  clear h hL hb0 hB
  simp only at KC ⊢
  have HTR : Hid (textR t d = lb (xjoin 32 ((wordsR t d).map nums))) := rfl
  unfold WdPost at KC
  generalize wordsR t d = l at *
  go_enter Tryz.func13, Tryz.ntmps13
  have d0 := H.out.1.1
  have d1 := H.out.1.2.1
  have d2 := H.out.1.2.2.1
  have d3 := H.out.1.2.2.2.1
  simp only at d0 d1 d2 d3
  go_wp2_with fail
  generalize (w.alloc (.cells #[.slice a1 n1 k1, .slice a2 n2 k2, .slice a3 n3 k3, .slice a4 n4 k4] 29)) = wa at *
  refine KC.out.mono ?_
  rintro e w2 ⟨v, ys, rfl, H2⟩
  have HB2 := Lib.hid (H.out.2.2.1.trans (H2.out.2.2.mono H.out.2.2.1.size))
  obtain ⟨ao, rfl, hnil⟩ := H2.out.1.shape
  have KJ : Hid (Calls Tryz.prog 43 #[.slice ao l.length ys.length, .string ⟨#[32]⟩] w2 fun e w' => e = .returned (.string (textR t d)) ∧ Hid (Below w2.heap.size w2 w')) := by
    have hr := H2.out.1.rd l.length
    rw [H2.out.2.1] at hr
    have hs := H2.out.1.small H2.out.2.1
    have hm := xjoin_len 32 (l.map nums) 1000000 (by
      intro p hp
      obtain ⟨s, hs', rfl⟩ := List.mem_map.1 hp
      rw [nums_len]
      exact hs s hs')
    rw [List.length_map] at hm
    have hm2 : l.length * (1000000 + 1) ≤ 100000 * 1000001 := Nat.mul_le_mul_right _ hlw
    rw [HTR.out]
    exact join_any 32 ao l.length ys.length l w2 hr rfl H2.out.1.le.1 (by omega) (by show (xjoin 32 _).length ≤ _; omega)
  clear KC H2 hnil d0 d1 d2 d3 HTR
  generalize l.length = n at *
  generalize ys.length = yl at *
  obtain ⟨R, hR⟩ : ∃ R, textR t d = R := ⟨_, rfl⟩
  have HRR : Hid (textR t d = R) := hR
  rw [hR] at KJ
  clear hR
  go_wp2_with fail
  refine KJ.out.mono ?_
  rintro e w3 ⟨rfl, H3⟩
  have HB3 := Lib.hid (HB2.out.trans (H3.out.mono HB2.out.size))
  go_wp2_with fail
  go_ret2
  exact ⟨by rw [HRR.out]; rfl, HB3.out⟩
end Go.Proofs.YtfkfjodfjgjbkaaGreatDoor
/- What the document's examples say, at the head of each statement. -/
namespace Go.Proofs.YtfkfjodfjgjbkaaGreatDoor
open Go.ChangeShapes Go.WideShapes Go.ChangeAt Go.RowKit
set_option linter.unusedVariables false
set_option linter.unusedSimpArgs false

abbrev tenL : List Int := [32, 1, 13, 184, 0, 0, 0, 0, 0, 0, 0, 0, 0, 0, 0, 1]
abbrev aMx : Dat := ⟨[[⟨#[109, 97, 105, 108]⟩, ⟨#[98]⟩]], [10], [], []⟩
abbrev aNs : Dat := ⟨[[⟨#[97]⟩, ⟨#[98]⟩]], [], [], []⟩
theorem ten_is : xaddrR tenL = (⟨#[50, 48, 48, 49, 58, 100, 98, 56, 58, 58, 49]⟩, 0) := by decide +kernel
theorem mx_is : checkF 15 aMx = 0 ∧ textR 15 aMx = ⟨#[49, 48, 32, 109, 97, 105, 108, 46, 98, 46]⟩ ∧ (wordsR 15 aMx).length ≤ 100000 := by decide +kernel
theorem ns_is : checkF 2 aNs = 0 ∧ nrel ⟨#[97]⟩ [⟨#[98]⟩] = ([⟨#[97]⟩, ⟨#[98]⟩], 0) ∧ nck [⟨#[98]⟩] = 0 ∧ mayT 2 = true := by decide +kernel
theorem aMx_bd : Bd aMx := ⟨by decide, by simp, by decide, by decide +kernel, by decide⟩
theorem aNs_bd : Bd aNs := ⟨by decide, by simp, by decide, by decide +kernel, by decide⟩
set_option maxRecDepth 100000 in
theorem ten_any (w : World) : Calls Tryz.prog 52 #[] w fun e w' => e = .returned (.slice (some ⟨w.heap.size, 0, none⟩) 16 16) ∧ Hid (Rd w' (some ⟨w.heap.size, 0, none⟩) tenL ∧ Below w.heap.size w w') := by
  go_enter Tryz.func52, Tryz.ntmps52
  go_wp2_with fail
  go_ret
  exact ⟨rfl, (new_b w tenL 16 rfl (by omega) (by decide)).1, new_below _ _⟩
/-- The words of the example. -/
theorem one_rdw (w : World) (s : ByteArray) (q : Bool) : RdW (w.alloc (.cells #[.string s, .bool q] 59)) (some ⟨w.heap.size, 0, none⟩) [(s, q)] := by
  refine .inr ⟨w.heap.size, 0, rfl, by simp, fun i hi => ?_⟩
  have : i = 0 := by simp at hi; omega
  subst this
  unfold World.cell?
  rw [heap_alloc_new]
  exact ⟨rfl, rfl⟩
set_option maxRecDepth 100000 in
set_option maxHeartbeats 4000000 in
theorem parseNS (w : World) (a oa : Option Addr) (hw : RdW w a [(⟨#[97]⟩, false)]) (ho : Nm w oa 1 [⟨#[98]⟩]) : Calls Tryz.prog 26 #[.int .u16 2, .slice a 1 1, .slice oa 1 1] w (PrPost aNs w) :=
  parse_ok 2 (.slice a 1 1) oa 1 1 [⟨#[98]⟩] aNs w ho ns_is.2.2.1 ns_is.2.2.2 aNs_bd ns_is.1 (fun W hW =>
    read_ok 2 a [(⟨#[97]⟩, false)] 1 oa 1 1 aNs W (by simp) (hw.below hW) (fun w0 h0 => readNS 2 (.inl rfl) w0 a ⟨#[97]⟩ 1 oa 1 1 [⟨#[98]⟩] _ (by decide) ns_is.2.1 ((hw.below hW).below h0) (by omega) (by omega) ((ho.below hW).below h0)))
set_option maxRecDepth 100000 in
theorem textMx (w : World) (hL : LayT w) : Calls Tryz.prog 13 #[.int .u16 15, .agg #[.slice (some ⟨w.heap.size + 1 + 1, 0, none⟩) 1 1, .slice (some ⟨w.heap.size, 0, none⟩) 1 1, .slice none 0 0, .slice none 0 0]] (((w.alloc (.cells #[.int .u32 10] 70)).alloc (.cells #[.string ⟨#[109, 97, 105, 108]⟩, .string ⟨#[98]⟩] 9)).alloc (.cells #[.slice (some ⟨w.heap.size + 1, 0, none⟩) 2 2] 45)) fun e w' => e = .returned (.tuple #[.string ⟨#[49, 48, 32, 109, 97, 105, 108, 46, 98, 46]⟩, .int .i64 0]) ∧ Hid (Below w.heap.size w w') := by
  have b1 := new_below w (.cells #[.int .u32 10] 70)
  have b2 := new_below (w.alloc (.cells #[.int .u32 10] 70)) (.cells #[.string ⟨#[109, 97, 105, 108]⟩, .string ⟨#[98]⟩] 9)
  have b3 := new_below ((w.alloc (.cells #[.int .u32 10] 70)).alloc (.cells #[.string ⟨#[109, 97, 105, 108]⟩, .string ⟨#[98]⟩] 9)) (.cells #[.slice (some ⟨w.heap.size + 1, 0, none⟩) 2 2] 45)
  have s1 : (w.alloc (.cells #[.int .u32 10] 70)).heap.size = w.heap.size + 1 := by simp
  have s2 : ((w.alloc (.cells #[.int .u32 10] 70)).alloc (.cells #[.string ⟨#[109, 97, 105, 108]⟩, .string ⟨#[98]⟩] 9)).heap.size = w.heap.size + 1 + 1 := by simp
  have hu : URd (w.alloc (.cells #[.int .u32 10] 70)) ⟨some ⟨w.heap.size, 0, none⟩, 1, 1⟩ [10] := new_u w [10] 1 rfl (by omega) (by simp)
  have ht : TRd ((w.alloc (.cells #[.int .u32 10] 70)).alloc (.cells #[.string ⟨#[109, 97, 105, 108]⟩, .string ⟨#[98]⟩] 9)) ⟨some ⟨w.heap.size + 1, 0, none⟩, 2, 2⟩ [⟨#[109, 97, 105, 108]⟩, ⟨#[98]⟩] := by
    have := new_t (w.alloc (.cells #[.int .u32 10] 70)) [⟨#[109, 97, 105, 108]⟩, ⟨#[98]⟩] 2 rfl (by omega) (by decide)
    rw [s1] at this
    exact this
  have hn := new_n1 ((w.alloc (.cells #[.int .u32 10] 70)).alloc (.cells #[.string ⟨#[109, 97, 105, 108]⟩, .string ⟨#[98]⟩] 9)) ⟨some ⟨w.heap.size + 1, 0, none⟩, 2, 2⟩ _ ht
  rw [s2] at hn
  have hall : Below w.heap.size w (((w.alloc (.cells #[.int .u32 10] 70)).alloc (.cells #[.string ⟨#[109, 97, 105, 108]⟩, .string ⟨#[98]⟩] 9)).alloc (.cells #[.slice (some ⟨w.heap.size + 1, 0, none⟩) 2 2] 45)) := (b1.trans (b2.mono b1.size)).trans (b3.mono (by omega))
  have hd : DRd (((w.alloc (.cells #[.int .u32 10] 70)).alloc (.cells #[.string ⟨#[109, 97, 105, 108]⟩, .string ⟨#[98]⟩] 9)).alloc (.cells #[.slice (some ⟨w.heap.size + 1, 0, none⟩) 2 2] 45)) ⟨⟨some ⟨w.heap.size + 1 + 1, 0, none⟩, 1, 1⟩, ⟨some ⟨w.heap.size, 0, none⟩, 1, 1⟩, ⟨none, 0, 0⟩, ⟨none, 0, 0⟩⟩ aMx := ⟨hn, (hu.below b2).below b3, nil_trd _, nil_brd _⟩
  have := text13_any 15 _ aMx _ hd aMx_bd (hL.below hall) mx_is.2.2
  rw [mx_is.1, mx_is.2.1] at this
  exact this.mono fun e w' h => ⟨h.1, hall.trans (h.2.out.mono hall.size)⟩
set_option maxRecDepth 100000 in
set_option maxHeartbeats 4000000 in
theorem awake6 (w : World) (hL : LayT w) : Calls Tryz.prog 23 #[] w fun e w' => e = .returned (.bool true) ∧ Hid (Below w.heap.size w w') := by
  have HL : Hid (LayT w) := hL
  clear hL
  go_enter Tryz.func23, Tryz.ntmps23
  go_wp2_with fail
  refine (ten_any w).mono ?_
  rintro e w1 ⟨rfl, H1⟩
  have K1 : Hid (Calls Tryz.prog 15 #[.slice (some ⟨w.heap.size, 0, none⟩) 16 16] w1 fun e w' => e = .returned (.tuple #[.string ⟨#[50, 48, 48, 49, 58, 100, 98, 56, 58, 58, 49]⟩, .int .i64 0]) ∧ Hid (Below w1.heap.size w1 w')) := by
    have := address_any (some ⟨w.heap.size, 0, none⟩) 16 16 tenL w1 H1.out.1 rfl (HL.out.below H1.out.2)
    rw [ten_is] at this
    exact this
  go_wp2_with fail
  refine K1.out.mono ?_
  rintro e w2 ⟨rfl, H2⟩
  have HB2 : Hid (Below w.heap.size w w2) := H1.out.2.trans (H2.out.mono H1.out.2.size)
  have KM := Lib.hid (textMx w2 (HL.out.below HB2.out))
  clear H1 H2 K1
  go_wp2_with fail
  refine KM.out.mono ?_
  rintro e w3 ⟨rfl, H3⟩
  have HB3 : Hid (Below w.heap.size w w3) := HB2.out.trans (H3.out.mono HB2.out.size)
  clear KM H3 HB2
  have KP : Hid (Calls Tryz.prog 26 #[.int .u16 2, .slice (some ⟨w3.heap.size, 0, none⟩) 1 1, .slice (some ⟨w3.heap.size + 1, 0, none⟩) 1 1] ((w3.alloc (.cells #[.string ⟨#[97]⟩, .bool false] 59)).alloc (.cells #[.string ⟨#[98]⟩] 9)) (PrPost aNs ((w3.alloc (.cells #[.string ⟨#[97]⟩, .bool false] 59)).alloc (.cells #[.string ⟨#[98]⟩] 9)))) := by
    have s1 : (w3.alloc (.cells #[.string ⟨#[97]⟩, .bool false] 59)).heap.size = w3.heap.size + 1 := by simp
    have ht := new_t (w3.alloc (.cells #[.string ⟨#[97]⟩, .bool false] 59)) [⟨#[98]⟩] 1 rfl (by omega) (by decide)
    rw [s1] at ht
    exact parseNS _ _ _ ((one_rdw w3 ⟨#[97]⟩ false).below (new_below _ _)) ⟨ht.rd, rfl, by decide⟩
  have HB4 : Hid (Below w.heap.size w ((w3.alloc (.cells #[.string ⟨#[97]⟩, .bool false] 59)).alloc (.cells #[.string ⟨#[98]⟩] 9))) := (HB3.out.alloc HB3.out.size _).alloc (Nat.le_trans HB3.out.size (new_below w3 _).size) _
  go_wp2_with fail
  refine KP.out.mono ?_
  rintro e w5 ⟨x, rfl, H5⟩
  have HB5 : Hid (Below w.heap.size w w5) := HB4.out.trans (H5.out.2.mono HB4.out.size)
  have HO : Hid (NRd w5 x.p1 [[⟨#[97]⟩, ⟨#[98]⟩]]) := H5.out.1.1.rd
  clear KP HB4 H5
  obtain ⟨b, o, hbo, hb, z, hz, hzz⟩ := HO.out.at 0 (by simp)
  have hlen : x.p1.n = 1 := HO.out.len.symm
  simp only [Nat.add_zero] at hz
  obtain ⟨⟨a1, n1, c1⟩, ⟨a2, n2, c2⟩, ⟨a3, n3, c3⟩, ⟨a4, n4, c4⟩⟩ := x
  obtain ⟨za, zn, zc⟩ := z
  simp only at hbo hlen hz ⊢
  subst hbo hlen
  have hzn : zn = 2 := hzz.len.symm
  subst hzn
  have HZ : Hid (RdT w5 za [⟨#[97]⟩, ⟨#[98]⟩]) := hzz.rd
  have HB6 : Hid (Below w5.heap.size w5 ((w5.alloc (.cells #[.slice (some ⟨b, o, none⟩) 1 c1, .slice a2 n2 c2, .slice a3 n3 c3, .slice a4 n4 c4] 29)).alloc (.cells #[.string ⟨#[97]⟩, .string ⟨#[98]⟩] 9))) := (new_below w5 _).trans ((new_below _ _).mono (new_below w5 _).size)
  have KS : Hid (Calls Tryz.prog 51 #[.slice za 2 zc, .slice (some ⟨w5.heap.size + 1, 0, none⟩) 2 2] ((w5.alloc (.cells #[.slice (some ⟨b, o, none⟩) 1 c1, .slice a2 n2 c2, .slice a3 n3 c3, .slice a4 n4 c4] 29)).alloc (.cells #[.string ⟨#[97]⟩, .string ⟨#[98]⟩] 9)) fun e w' => e = .returned (.bool true) ∧ Hid (Below ((w5.alloc (.cells #[.slice (some ⟨b, o, none⟩) 1 c1, .slice a2 n2 c2, .slice a3 n3 c3, .slice a4 n4 c4] 29)).alloc (.cells #[.string ⟨#[97]⟩, .string ⟨#[98]⟩] 9)).heap.size ((w5.alloc (.cells #[.slice (some ⟨b, o, none⟩) 1 c1, .slice a2 n2 c2, .slice a3 n3 c3, .slice a4 n4 c4] 29)).alloc (.cells #[.string ⟨#[97]⟩, .string ⟨#[98]⟩] 9)) w')) := by
    have s1 : (w5.alloc (.cells #[.slice (some ⟨b, o, none⟩) 1 c1, .slice a2 n2 c2, .slice a3 n3 c3, .slice a4 n4 c4] 29)).heap.size = w5.heap.size + 1 := by simp
    have ht := new_t (w5.alloc (.cells #[.slice (some ⟨b, o, none⟩) 1 c1, .slice a2 n2 c2, .slice a3 n3 c3, .slice a4 n4 c4] 29)) [⟨#[97]⟩, ⟨#[98]⟩] 2 rfl (by omega) (by decide)
    rw [s1] at ht
    exact sameN_yes za (some ⟨w5.heap.size + 1, 0, none⟩) 2 zc 2 [⟨#[97]⟩, ⟨#[98]⟩] _ (HZ.out.below HB6.out) ht.rd rfl (by omega)
  clear HO hzz HB3
  go_wp2_with fail
  refine KS.out.mono ?_
  rintro e w7 ⟨rfl, H7⟩
  have HB7 : Hid (Below w.heap.size w w7) := HB5.out.trans ((HB6.out.trans (H7.out.mono HB6.out.size)).mono HB5.out.size)
  clear KS HB5 HB6 H7
  go_wp2_with fail
  go_ret
  exact ⟨rfl, HB7⟩
end Go.Proofs.YtfkfjodfjgjbkaaGreatDoor
/- Quotes and addresses are read as what they say: the statement's function. -/
namespace Go.Proofs.YtfkfjodfjgjbkaaGreatDoor
open Go.ChangeShapes Go.WideShapes Go.ChangeAt Go.RowKit
set_option linter.unusedVariables false
set_option linter.unusedSimpArgs false

theorem xaddr_size (zs s : List Int) (hbz : ∀ z ∈ zs, 0 ≤ z ∧ z ≤ 255) (hs : xaddr zs = some s) : (lb s).size ≤ 1000000 := by
  rw [← nums_len, (addr_term s (xaddr_ok _ _ hs)).1]
  unfold xaddr at hs
  split at hs
  · injection hs with hs; subst hs
    have := xjoin_len 46 (zs.map fun c => xdec c.toNat) 3 (by
      intro p hp
      obtain ⟨z, hz, rfl⟩ := List.mem_map.1 hp
      have := hbz z hz
      exact xdec_le _ (by omega))
    rw [List.length_map] at this
    omega
  · split at hs
    · next h16 =>
      injection hs with hs; subst hs
      obtain ⟨i1, i2, i3⟩ := xprs_by zs 8 (by omega) hbz
      have hc : ∀ l : List Nat, l.length ≤ 8 → (∀ n ∈ l, n < 65536) → (xcol l).length ≤ 40 := by
        intro l h1 h2
        have := xjoin_len 58 (l.map xhex) 4 (by
          intro p hp
          obtain ⟨z, hz, rfl⟩ := List.mem_map.1 hp
          exact (xhex_len _ (h2 z hz)).2)
        rw [List.length_map] at this
        unfold xcol; omega
      unfold xa6
      split
      · have := hc _ (by omega) i3; omega
      · have h1 := hc ((xprs zs).take (xlong (xprs zs)).1) (by simp; omega) (fun n hn => i3 n (List.mem_of_mem_take hn))
        have h2 := hc ((xprs zs).drop ((xlong (xprs zs)).1 + (xlong (xprs zs)).2)) (by simp; omega) (fun n hn => i3 n (List.mem_of_mem_drop hn))
        simp only [List.length_append, List.length_cons]
        omega
    · cases hs
theorem nums_xqw (s : ByteArray) : nums (xqw s) = 34 :: (xq (nums s) ++ [34]) := nums_lb _ (xquote_by _ (nums_all s))
theorem xqw_facts (s : ByteArray) (hs : s.size ≤ 2000) : 2 ≤ (xqw s).size ∧ (xqw s).size ≤ 8002 ∧ (∀ k (h : k < (xqw s).size), (32 : Int) ≤ ((xqw s)[k].toNat : Int) ∧ ((xqw s)[k].toNat : Int) ≤ 126) ∧ (∀ h : 0 < (xqw s).size, (((xqw s)[0].toNat : Nat) : Int) = 34) ∧ (∀ h : (xqw s).size - 1 < (xqw s).size, (((xqw s)[(xqw s).size - 1].toNat : Nat) : Int) = 34) := by
  have e := nums_xqw s
  have hl : (nums (xqw s)).length = (xqw s).size := nums_len _
  have h1 := xq_len (nums s)
  rw [nums_len] at h1
  have hlen : (xqw s).size = (xq (nums s)).length + 2 := by rw [← hl, e]; simp
  refine ⟨by omega, by omega, fun k h => ?_, fun h => ?_, fun h => ?_⟩
  · have h2 := nums_at (xqw s) k h
    have h3 : (nums (xqw s)).getD k 0 ∈ nums (xqw s) := by
      rw [List.getD_eq_getElem?_getD, List.getElem?_eq_getElem (by rw [hl]; exact h)]
      exact List.getElem_mem _
    rw [e] at h3
    have := xquote_print (nums s) (nums_all s) _ h3
    rw [← e, h2] at this
    exact this
  · rw [← nums_at (xqw s) 0 h, e]; rfl
  · rw [← nums_at (xqw s) _ h, e, hlen]
    simp
theorem inner_is (s q : ByteArray) (h : nums q = xq (nums s)) (hs : s.size ≤ 2000) : xstrR (nums q) = (s, 0) := by
  rw [h, xstrR_some (xstr_q (nums s) (nums_all s)), lb_nums]
set_option maxRecDepth 100000 in
set_option maxHeartbeats 4000000 in
theorem quoteL (s : ByteArray) (hs : s.size ≤ 9223372036854775807) (a : Option Addr) (n c : Nat) (zs : List Int) (w : World) (hr : Rd w a zs) (hl : zs.length = n) (hn : n ≤ 9223372036854775807) (hL : LayT w) (hE : LayE w) :
    Calls Tryz.prog 6 #[.string s, .slice a n c] w fun e w' => e = .returned (.bool true) ∧ Hid (Below w.heap.size w w') := by
  have H : Hid (Rd w a zs ∧ zs.length = n ∧ LayT w ∧ LayE w) := ⟨hr, hl, hL, hE⟩
  have KA := Lib.hid (awake6 w hL)
  clear hr hl hL hE
  by_cases hbig : 2000 < s.size
  · have hb' : (2000 : Int) < (s.size : Int) := by omega
    go_enter Tryz.func6, Tryz.ntmps6
    go_wp2_with fail
    refine KA.out.mono ?_
    rintro e w1 ⟨rfl, H1⟩
    go_wp2_with fail
    go_ret
    exact ⟨rfl, H1⟩
  · have hb' : ¬ (2000 : Int) < (s.size : Int) := by omega
    have HQ := Lib.hid (xqw_facts s (by omega))
    have HI := Lib.hid (inner_is s)
    have HN := Lib.hid (nums_xqw s)
    have KQ : Hid (∀ W, Calls Tryz.prog 18 #[.string s] W fun e w' => e = .returned (.string (xqw s)) ∧ Hid (Below W.heap.size W w')) := fun W => quote_any s W (by omega)
    generalize hq : xqw s = q at *
    obtain ⟨hq2, hq3⟩ := (⟨HQ.out.1, HQ.out.2.1⟩ : 2 ≤ q.size ∧ q.size ≤ 8002)
    have hl2 : ¬ (q.size : Int) < 2 := by omega
    have hp0 : 0 < q.size := by omega
    have hpl : q.size - 1 < q.size := by omega
    have q0 := HQ.out.2.2.2.1 hp0
    have ql := HQ.out.2.2.2.2 hpl
    have hcast : (((q.size : Int) - 1).toNat) = q.size - 1 := by omega
    go_enter Tryz.func6, Tryz.ntmps6
    go_wp2_with fail
    refine KA.out.mono ?_
    rintro e w1 ⟨rfl, H1⟩
    go_wp2_with fail
    refine (KQ.out _).mono ?_
    rintro e w2 ⟨rfl, H2⟩
    go_wp2_with fail
    have HB2 : Hid (Below w.heap.size w w2) := H1.out.trans (H2.out.mono H1.out.size)
    clear H1 H2 KQ KA q0 ql hcast hpl
    go_loopw [7] (fun y wr => ∃ k : Nat, k ≤ q.size ∧ y = .int .i64 k ∧ wr = w2) (fun y _ => q.size - (intOf y).toNat)
    case atStart => exact ⟨0, Nat.zero_le _, rfl, rfl⟩
    case round =>
      obtain ⟨k, hk, rfl, hwr⟩ := hrel
      subst hwr
      by_cases hlt : k < q.size
      · have hlt' : (k : Int) < (q.size : Int) := by omega
        obtain ⟨g1, g2⟩ := HQ.out.2.2.1 k hlt
        go_wp2_with fail
        exact ⟨⟨k + 1, by omega, by go_num, by first | trivial | rfl⟩, by simp [intOf]; omega⟩
      · have hge : ¬ (k : Int) < (q.size : Int) := by omega
        have hkn : k = q.size := by omega
        subst hkn
        have hin : nums (q.extract 1 (q.size - 1)) = xq (nums s) := by
          rw [nums_extract2, HN.out]
          have hz : q.size = (xq (nums s)).length + 2 := by rw [← nums_len q, HN.out]; simp
          rw [hz]
          simp
        have hsz : (q.extract 1 (q.size - 1)).size ≤ 140737488355328 := by
          rw [← nums_len, hin]
          have := xq_len (nums s)
          rw [nums_len] at this
          omega
        have KS : Hid (Calls Tryz.prog 31 #[.string (q.extract 1 (q.size - 1))] wr fun e w' => e = .returned (.tuple #[.string s, .int .i64 0]) ∧ Hid (Below wr.heap.size wr w')) := by
          have := string_any (q.extract 1 (q.size - 1)) wr hsz (H.out.2.2.2.below HB2.out)
          rw [HI.out _ hin (by omega)] at this
          exact this
        clear hin hsz
        go_wp2_with fail
        refine KS.out.mono ?_
        rintro e w3 ⟨rfl, H3⟩
        have HB3 : Hid (Below w.heap.size w w3) := HB2.out.trans (H3.out.mono HB2.out.size)
        clear H3 HB2 KS HI HQ HN
        have KD : Hid (Calls Tryz.prog 15 #[.slice a n c] w3 fun e w' => e = .returned (.tuple #[.string (xaddrR zs).1, .int .i64 (xaddrR zs).2]) ∧ Hid (Below w3.heap.size w3 w')) := address_any a n c zs w3 (H.out.1.below HB3.out) H.out.2.1 (H.out.2.2.1.below HB3.out)
        cases hx : xaddr zs with
        | none =>
          have e : xaddrR zs = (⟨#[]⟩, 7) := by unfold xaddrR; rw [hx]
          have h4 : ¬ (n : Int) = 4 ∧ ¬ (n : Int) = 16 := by
            constructor
            · intro h
              obtain ⟨y, hy⟩ := xaddr_some zs (by rw [H.out.2.1]; omega)
              rw [hy] at hx; cases hx
            · intro h
              obtain ⟨y, hy⟩ := xaddr_some zs (by rw [H.out.2.1]; omega)
              rw [hy] at hx; cases hx
          obtain ⟨h41, h42⟩ := h4
          have h43 : ((n : Int) == 4) = false := by simpa using h41
          have h44 : ((n : Int) == 16) = false := by simpa using h42
          rw [e] at KD
          go_wp2_with fail
          refine KD.out.mono ?_
          rintro e w4 ⟨rfl, H4⟩
          go_wp2_with fail
          go_ret
          exact ⟨ret_bool (by simp [bne, h43, h44]), HB3.out.trans (H4.out.mono HB3.out.size)⟩
        | some t =>
          have e : xaddrR zs = (lb t, 0) := by unfold xaddrR; rw [hx]
          have hls := xaddr_size zs t H.out.1.2 hx
          have hback := xaddr_back zs t H.out.1.2 hx
          have hby : ∀ c ∈ t, 0 ≤ c ∧ c ≤ 255 := fun c hc => by have := xaddr_ok zs t hx c hc; unfold xok at this; omega
          have hnl : nums (lb t) = t := nums_lb t hby
          have KP : Hid (∀ W, LayE W → Calls Tryz.prog 32 #[.string (lb t)] W (AdPost (some zs) W)) := fun W hW => by
            have := paddr_any (lb t) W (by omega) hW
            rw [hnl, hback] at this
            exact this
          rw [e] at KD
          clear hback hby hnl e hx hls
          go_wp2_with fail
          refine KD.out.mono ?_
          rintro e w4 ⟨rfl, H4⟩
          have HB4 : Hid (Below w.heap.size w w4) := HB3.out.trans (H4.out.mono HB3.out.size)
          clear KD H4 HB3
          go_wp2_with fail
          refine (KP.out _ (H.out.2.2.2.below HB4.out)).mono ?_
          rintro e w5 ⟨hP, -⟩
          obtain ⟨v, ys, rfl, H5⟩ := hP zs rfl
          obtain ⟨ao, rfl, hoa⟩ := H5.out.1.addr
          have hr2 := hoa.rdTake zs.length
          rw [H5.out.2.1] at hr2
          have HB5 : Hid (Below w.heap.size w w5) := HB4.out.trans (H5.out.2.2.mono HB4.out.size)
          have KE : Hid (Calls Tryz.prog 33 #[.slice ao n ys.length, .slice a n c] w5 fun e w' => e = .returned (.bool true) ∧ w' = w5) := same_yes ao a n ys.length c zs w5 hr2 (H.out.1.below HB5.out) H.out.2.1
          have hlz : zs.length = n := H.out.2.1
          rw [hlz]
          clear hr2 hoa H5 KP HB4
          go_wp2_with fail
          refine KE.out.mono ?_
          rintro e w6 ⟨rfl, rfl⟩
          go_wp2_with fail
          go_ret
          exact ⟨rfl, HB5⟩
end Go.Proofs.YtfkfjodfjgjbkaaGreatDoor
