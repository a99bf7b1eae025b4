/- Texts laid together, in parts: Tf Tg Tb Tc Ti Tj Qp Ub Ia Tk Ua Ka. -/
import Derived.Test.YtfkfjodfjgjbkaaGreatDoorWud
import Derived.Deep.CutBlock
import Derived.Lib.Hide
namespace Go.Proofs.YtfkfjodfjgjbkaaGreatDoor
open Go.ChangeShapes Go.WideShapes Go.ChangeAt Go.RowKit
set_option linter.unusedVariables false
set_option linter.unusedSimpArgs false
/-- Numbers in memory. -/
def iv (l : List Nat) : List Value := l.map fun (n : Nat) => Value.int .i64 (n : Int)
theorem iv_len (l : List Nat) : (iv l).length = l.length := by simp [iv]
theorem iv_at {w : World} {a : Option Addr} {l : List Nat} (h : RdV w a (iv l)) (i : Nat) (hi : i < l.length) : ∃ b o, a = some ⟨b, o, none⟩ ∧ b < w.heap.size ∧ w.cell? ⟨b, o + i, none⟩ = some (.int .i64 (l[i] : Int)) := by
  rcases h with h0 | ⟨b, o, h1, h2, h3⟩
  · have := congrArg List.length h0
    rw [iv_len] at this; simp at this; subst this; simp at hi
  · refine ⟨b, o, h1, h2, ?_⟩
    have := h3 i (by rw [iv_len]; exact hi)
    rw [this]; simp [iv]
theorem xzr_zero (l : List Nat) : ∀ m, m < xzr l → l[m]? = some 0 := by
  induction l with
  | nil => intro m h; simp [xzr] at h
  | cons n l ih =>
    intro m h
    simp only [xzr] at h
    split at h
    · next h0 =>
      subst h0
      cases m with
      | zero => rfl
      | succ m => simpa using ih m (by omega)
    · omega
theorem xzr_end (l : List Nat) (v : Nat) (h : l[xzr l]? = some v) : v ≠ 0 := by
  induction l with
  | nil => simp at h
  | cons n l ih =>
    simp only [xzr] at h
    split at h
    · next h0 => exact ih (by simpa using h)
    · next h0 => simp at h; omega
def xF (l : List Nat) (k : Nat) : Nat × Nat := (List.range k).foldl (xstep l) (0, 1)
theorem xF_succ (l : List Nat) (k : Nat) : xF l (k + 1) = xstep l (xF l k) k := by unfold xF; rw [List.range_succ, List.foldl_append]; rfl
theorem xF_bd (l : List Nat) : ∀ k, k ≤ l.length → (xF l k).1 ≤ l.length ∧ (xF l k).2 ≤ l.length + 1 := by
  intro k
  induction k with
  | zero => intro _; exact ⟨Nat.zero_le _, by show 1 ≤ _; omega⟩
  | succ k ih =>
    intro hk
    rw [xF_succ]
    unfold xstep
    split
    · have := xzr_le (l.drop k)
      simp at this
      exact ⟨by show k ≤ _; omega, by show xzr _ ≤ _; omega⟩
    · exact ih (by omega)
theorem xlong_F (l : List Nat) : xlong l = if (xF l l.length).2 < 2 then (l.length, 0) else xF l l.length := rfl
set_option maxRecDepth 100000 in
set_option maxHeartbeats 2000000 in
theorem longest_any (a : Option Addr) (n c : Nat) (l : List Nat) (w : World) (hr : RdV w a (iv l)) (hl : l.length = n) (hn : n ≤ 1000) :
    Calls Tryz.prog 46 #[.slice a n c] w fun e w' => e = .returned (.tuple #[.int .i64 ((xlong l).1 : Int), .int .i64 ((xlong l).2 : Int)]) ∧ w' = w := by
  have HR : Hid (RdV w a (iv l)) := hr
  have HL : Hid (l.length = n) := hl
  clear hr hl
  go_enter Tryz.func46, Tryz.ntmps46
  go_wp2_with fail
  go_loopw [4, 5, 6] (fun x y z wr => ∃ (k p q : Nat), k ≤ n ∧ x = .int .i64 (p : Int) ∧ y = .int .i64 (q : Int) ∧ z = .int .i64 (k : Int) ∧ Hid (xF l k = (p, q)) ∧ wr = w) (fun _ _ z _ => n - (intOf z).toNat)
  case atStart => exact ⟨0, 0, 1, Nat.zero_le _, rfl, rfl, rfl, rfl, rfl⟩
  case round =>
    obtain ⟨k, p, q, hk, rfl, rfl, rfl, HF, hwr⟩ := hrel
    subst hwr
    have hb := xF_bd l k (by rw [HL.out]; exact hk)
    rw [HF.out, HL.out] at hb
    simp only at hb
    obtain ⟨hb1, hb2⟩ := hb
    by_cases hlt : k < n
    · have hlt' : (k : Int) < (n : Int) := by omega
      obtain ⟨z, hz⟩ : ∃ z, xzr (l.drop k) = z := ⟨_, rfl⟩
      have hzl : k + z ≤ n := by have := xzr_le (l.drop k); rw [hz] at this; simp at this; rw [HL.out] at this; omega
      have HZ : Hid (∀ m, m < z → l[k + m]? = some 0) := fun m hm => by have := xzr_zero (l.drop k) m (by rw [hz]; exact hm); rw [List.getElem?_drop] at this; exact this
      have HE : Hid (∀ v, l[k + z]? = some v → v ≠ 0) := fun v hv => by have := xzr_end (l.drop k) v (by rw [hz, List.getElem?_drop]; exact hv); exact this
      have HS : Hid (xF l (k + 1) = if q < z then (k, z) else (p, q)) := by
        show _ = _
        rw [xF_succ, HF.out]; unfold xstep; rw [hz]
      clear hz HF
      go_wp2_with fail
      go_loopw [7] (fun y wv => ∃ m : Nat, m ≤ z ∧ y = .int .i64 ((k : Int) + (m : Int)) ∧ wv = wr) (fun y _ => n + 1 - (intOf y).toNat)
      case atStart => exact ⟨0, Nat.zero_le _, by simp, rfl⟩
      case round =>
        obtain ⟨m, hm, rfl, hwv⟩ := hrel
        subst hwv
        by_cases hmz : m < z
        · have h1 : (k : Int) + (m : Int) < (n : Int) := by omega
          obtain ⟨b, o, rfl, hbb, hc⟩ := iv_at HR.out (k + m) (by rw [HL.out]; omega)
          have h0 := HZ.out m hmz
          rw [List.getElem?_eq_getElem (by rw [HL.out]; omega)] at h0
          have h0' : l[k + m]'(by rw [HL.out]; omega) = 0 := by simpa using h0
          rw [h0'] at hc
          have hi : ((k : Int) + (m : Int)).toNat = k + m := by omega
          have hw1 : IntKind.i64.wrap ((k : Int) + (m : Int) + 1) = (k : Int) + (m : Int) + 1 := by rw [IntKind.wrap_i64]; omega
          have hnn : 0 ≤ (k : Int) + (m : Int) := by omega
          clear h0 h0'
          go_wp2_with fail
          exact ⟨⟨m + 1, by omega, by go_num, by first | trivial | rfl⟩, by simp [intOf]; omega⟩
        · have hmz' : m = z := by omega
          subst hmz'
          have hw2 : IntKind.i64.wrap ((k : Int) + (m : Int) - (k : Int)) = (m : Int) := by rw [IntKind.wrap_i64]; omega
          have hfin : ∀ (P : Nat × Nat → Prop), P (if q < m then (k, m) else (p, q)) → P (if q < m then (k, m) else (p, q)) := fun _ h => h
          by_cases hend : k + m < n
          · have h1 : (k : Int) + (m : Int) < (n : Int) := by omega
            obtain ⟨b, o, rfl, hbb, hc⟩ := iv_at HR.out (k + m) (by rw [HL.out]; omega)
            have h0 := HE.out _ (List.getElem?_eq_getElem (by rw [HL.out]; omega))
            generalize l[k + m]'(by rw [HL.out]; omega) = v at *
            have hv : ((v : Int) == 0) = false := by simp; omega
            have hi : ((k : Int) + (m : Int)).toNat = k + m := by omega
            have hnn : 0 ≤ (k : Int) + (m : Int) := by omega
            clear h0
            by_cases hq : q < m
            · have hq' : (q : Int) < (m : Int) := by omega
              go_wp2_with fail
              exact ⟨⟨k + 1, k, m, by omega, rfl, rfl, by go_num, by show _ = _; rw [HS.out, if_pos hq], by first | trivial | rfl⟩, by simp [intOf]; omega⟩
            · have hq' : ¬ (q : Int) < (m : Int) := by omega
              go_wp2_with fail
              exact ⟨⟨k + 1, p, q, by omega, rfl, rfl, by go_num, by show _ = _; rw [HS.out, if_neg hq], by first | trivial | rfl⟩, by simp [intOf]; omega⟩
          · have h1 : ¬ (k : Int) + (m : Int) < (n : Int) := by omega
            by_cases hq : q < m
            · have hq' : (q : Int) < (m : Int) := by omega
              go_wp2_with fail
              exact ⟨⟨k + 1, k, m, by omega, rfl, rfl, by go_num, by show _ = _; rw [HS.out, if_pos hq], by first | trivial | rfl⟩, by simp [intOf]; omega⟩
            · have hq' : ¬ (q : Int) < (m : Int) := by omega
              go_wp2_with fail
              exact ⟨⟨k + 1, p, q, by omega, rfl, rfl, by go_num, by show _ = _; rw [HS.out, if_neg hq], by first | trivial | rfl⟩, by simp [intOf]; omega⟩
    · have hge : ¬ (k : Int) < (n : Int) := by omega
      have hkn : k = n := by omega
      have HX : Hid (xlong l = if q < 2 then (n, 0) else (p, q)) := by
        show _ = _
        rw [xlong_F, HL.out, ← hkn, HF.out]
      by_cases hq : q < 2
      · have hq' : (q : Int) < 2 := by omega
        go_wp2_with fail
        exact bodyPost_ret (v := .tuple #[.int .i64 (n : Int), .int .i64 0]) (by simp [results, Tryz.results46, go_sem]) rfl ⟨by rw [HX.out, if_pos hq]; rfl, rfl⟩
      · have hq' : ¬ (q : Int) < 2 := by omega
        go_wp2_with fail
        exact bodyPost_ret (v := .tuple #[.int .i64 (p : Int), .int .i64 (q : Int)]) (by simp [results, Tryz.results46, go_sem]) rfl ⟨by rw [HX.out, if_neg hq], rfl⟩
theorem xjoin_snoc (c : Int) (ps : List (List Int)) (p : List Int) (h : ps ≠ []) : xjoin c (ps ++ [p]) = xjoin c ps ++ c :: p := by
  induction ps with
  | nil => exact absurd rfl h
  | cons x xs ih =>
    cases xs with
    | nil => rfl
    | cons y ys =>
      have := ih (by simp)
      simp only [List.cons_append, xjoin] at this ⊢
      rw [this]; simp
theorem xcol_snoc (l : List Nat) (k : Nat) (h : k < l.length) : xcol (l.take (k + 1)) = if k = 0 then xhex l[k] else xcol (l.take k) ++ 58 :: xhex l[k] := by
  rw [take_snocN l k h]
  unfold xcol
  rw [List.map_append]
  split
  · next h0 => subst h0; simp [xjoin]
  · next h0 =>
    rw [List.map_cons, List.map_nil, xjoin_snoc]
    intro e
    have := congrArg List.length e
    rw [List.length_map, List.length_take, List.length_nil] at this
    omega
theorem xcol_len (l : List Nat) (h : ∀ n ∈ l, n < 65536) : (xcol l).length ≤ 5 * l.length := by
  have := xjoin_len 58 (l.map xhex) 4 (by
    intro p hp
    obtain ⟨z, hz, rfl⟩ := List.mem_map.1 hp
    exact (xhex_len _ (h z hz)).2)
  rw [List.length_map] at this
  unfold xcol; omega
set_option maxRecDepth 100000 in
set_option maxHeartbeats 2000000 in
theorem colons_any (a : Option Addr) (n c : Nat) (l : List Nat) (w : World) (hr : RdV w a (iv l)) (hl : l.length = n) (hn : n ≤ 1000) (hb : ∀ x ∈ l, x < 65536) :
    Calls Tryz.prog 47 #[.slice a n c] w fun e w' => e = .returned (.string (lb (xcol l))) ∧ Hid (Below w.heap.size w w') := by
  have HR : Hid (RdV w a (iv l)) := hr
  have HL : Hid (l.length = n) := hl
  have HB0 : Hid (∀ x ∈ l, x < 65536) := hb
  clear hr hl hb
  go_enter Tryz.func47, Tryz.ntmps47
  go_wp2_with fail
  go_loopw [3, 4] (fun v y wr => ∃ k : Nat, k ≤ n ∧ y = .int .i64 (k : Int) ∧ ∃ s, v = .string s ∧ s.size ≤ 5 * k ∧ Hid (s = lb (xcol (l.take k))) ∧ Hid (Below w.heap.size w wr)) (fun _ y _ => n - (intOf y).toNat)
  case atStart => exact ⟨0, Nat.zero_le _, rfl, _, rfl, Nat.le_refl _, rfl, Below.refl _ _⟩
  case round =>
    obtain ⟨k, hk, rfl, s, rfl, hss, HS, HB⟩ := hrel
    by_cases hlt : k < n
    · have hlt' : (k : Int) < (n : Int) := by omega
      have hkl : k < l.length := by rw [HL.out]; exact hlt
      obtain ⟨b, o, rfl, hbb, hc⟩ := iv_at (HR.out.below HB.out) k hkl
      have hv := HB0.out _ (List.getElem_mem hkl)
      have HT : Hid (xcol (l.take (k + 1)) = if k = 0 then xhex l[k] else xcol (l.take k) ++ 58 :: xhex l[k]) := xcol_snoc l k hkl
      generalize l[k] = v at *
      have KH : Hid (∀ W, Calls Tryz.prog 83 #[.int .i64 (v : Int)] W fun e w' => e = .returned (.string (lb (xhex v))) ∧ Hid (Below W.heap.size W w')) := fun W => rhexn_any v hv W
      have hz : (lb (xhex v)).size ≤ 4 := by rw [lb_size]; exact (xhex_len v hv).2
      by_cases h0 : k = 0
      · subst h0
        simp only [Nat.add_zero] at hc
        have HE : Hid (s ++ lb (xhex v) = lb (xcol (l.take (0 + 1)))) := by
          show _ = _
          rw [HT.out, if_pos rfl, HS.out, List.take_zero]
          show lb [] ++ _ = _
          rw [← lb_app]; rfl
        generalize lb (xhex v) = S at *
        go_wp2_with fail
        refine (KH.out _).mono ?_
        rintro e w1 ⟨rfl, H1⟩
        go_wp2_with fail
        refine ⟨⟨0 + 1, by omega, by go_num, _, rfl, ?_, HE.out, HB.out.trans (H1.out.mono HB.out.size)⟩, by simp [intOf]; omega⟩
        rw [ByteArray.size_append]; omega
      · have h0' : (0 : Int) < (k : Int) := by omega
        have HE : Hid (s ++ ⟨#[58]⟩ ++ lb (xhex v) = lb (xcol (l.take (k + 1)))) := by
          show _ = _
          rw [HT.out, if_neg h0, HS.out]
          show lb _ ++ lb [58] ++ _ = _
          rw [← lb_app, ← lb_app]; simp
        have hz5 : (⟨#[58]⟩ : ByteArray).size = 1 := rfl
        have hz4 : (s ++ ⟨#[58]⟩ : ByteArray).size = s.size + 1 := by rw [ByteArray.size_append]; rfl
        have hz6 : (s ++ ⟨#[58]⟩ ++ lb (xhex v) : ByteArray).size = s.size + 1 + (lb (xhex v)).size := by rw [ByteArray.size_append, hz4]
        generalize lb (xhex v) = S at *
        go_wp2_with fail
        refine (KH.out _).mono ?_
        rintro e w1 ⟨rfl, H1⟩
        go_wp2_with fail
        exact ⟨⟨k + 1, by omega, by go_num, _, rfl, by rw [hz6]; omega, HE.out, HB.out.trans (H1.out.mono HB.out.size)⟩, by simp [intOf]; omega⟩
    · have hge : ¬ (k : Int) < (n : Int) := by omega
      have hks : k = l.length := by rw [HL.out]; omega
      have HE : Hid (s = lb (xcol l)) := by show _ = _; rw [HS.out, List.take_of_length_le (by omega)]
      go_wp2_with fail
      go_ret
      exact ⟨by rw [← HE.out]; rfl, HB⟩
end Go.Proofs.YtfkfjodfjgjbkaaGreatDoor
namespace Go.Proofs.YtfkfjodfjgjbkaaGreatDoor
open Go.ChangeShapes Go.WideShapes Go.ChangeAt Go.RowKit
set_option linter.unusedVariables false
set_option linter.unusedSimpArgs false
theorem tyI : ElemTy Tryz.prog 75 3 (.int .i64 0) 8 := ⟨Tryz.underlying75, by kernel_rfl, rfl⟩
def xj4 (zs : List Int) : List Int := xjoin 46 (zs.map fun c => xdec c.toNat)
theorem xj4_snoc (zs : List Int) (k : Nat) (h : k < zs.length) : xj4 (zs.take (k + 1)) = if k = 0 then xdec (zs.getD k 0).toNat else xj4 (zs.take k) ++ 46 :: xdec (zs.getD k 0).toNat := by
  rw [take_snoc zs k h]
  unfold xj4
  rw [List.map_append]
  split
  · next h0 => subst h0; simp [xjoin]
  · next h0 =>
    rw [List.map_cons, List.map_nil, xjoin_snoc]
    intro e
    have := congrArg List.length e
    rw [List.length_map, List.length_take, List.length_nil] at this
    omega
theorem addrR4 (zs : List Int) (h : zs.length = 4) : xaddrR zs = (lb (xj4 zs), 0) := by unfold xaddrR xaddr; rw [if_pos h]; rfl
theorem addrR16 (zs : List Int) (h : zs.length = 16) : xaddrR zs = (lb (xa6 (xprs zs)), 0) := by unfold xaddrR xaddr; rw [if_neg (by omega), if_pos h]
theorem addrRno (zs : List Int) (h4 : zs.length ≠ 4) (h : zs.length ≠ 16) : xaddrR zs = (⟨#[]⟩, 7) := by unfold xaddrR xaddr; rw [if_neg h4, if_neg h]
set_option maxRecDepth 100000 in
set_option maxHeartbeats 2000000 in
theorem raddr4 (a : Option Addr) (c : Nat) (zs : List Int) (w : World) (hr : Rd w a zs) (hl : zs.length = 4) :
    Calls Tryz.prog 16 #[.slice a 4 c] w fun e w' => e = .returned (.tuple #[.string (lb (xj4 zs)), .int .i64 0]) ∧ Hid (Below w.heap.size w w') := by
  have HR : Hid (Rd w a zs) := hr
  have HL : Hid (zs.length = 4) := hl
  clear hr hl
  go_enter Tryz.func16, Tryz.ntmps16
  go_wp2_with fail
  go_loopw [4, 5] (fun v y wr => ∃ k : Nat, k ≤ 4 ∧ y = .int .i64 (k : Int) ∧ ∃ s, v = .string s ∧ s.size ≤ 12 * k ∧ Hid (s = lb (xj4 (zs.take k))) ∧ Hid (Below w.heap.size w wr)) (fun _ y _ => 4 - (intOf y).toNat)
  case atStart => exact ⟨0, Nat.zero_le _, rfl, _, rfl, Nat.le_refl _, rfl, Below.refl _ _⟩
  case round =>
    obtain ⟨k, hk, rfl, s, rfl, hss, HS, HB⟩ := hrel
    by_cases hlt : k < 4
    · have hlt' : (k : Int) < 4 := by omega
      have hkl : k < zs.length := by rw [HL.out]; exact hlt
      have hbz := HR.out.bd k
      have HT : Hid (xj4 (zs.take (k + 1)) = if k = 0 then xdec (zs.getD k 0).toNat else xj4 (zs.take k) ++ 46 :: xdec (zs.getD k 0).toNat) := xj4_snoc zs k hkl
      rcases (HR.out.below HB.out).1 with e1 | ⟨b, o, rfl, hbb, e2⟩
      · rw [e1] at hkl; simp at hkl
      have hc := e2 k hkl
      clear e2
      generalize zs.getD k 0 = z at *
      obtain ⟨v, hv⟩ : ∃ v : Nat, z = (v : Int) := ⟨z.toNat, by omega⟩
      subst hv
      rw [Int.toNat_natCast] at HT
      have KH : Hid (∀ W, Calls Tryz.prog 45 #[.int .i64 (v : Int)] W fun e w' => e = .returned (.string (xnw v)) ∧ Hid (Below W.heap.size W w')) := fun W => rdecx v (by omega) W
      have hz : (xnw v).size ≤ 10 := by unfold xnw; rw [lb_size]; exact xdec_len10 v (by omega)
      have hwv : IntKind.i64.wrap (v : Int) = (v : Int) := by rw [IntKind.wrap_i64]; omega
      by_cases h0 : k = 0
      · subst h0
        simp only [Nat.add_zero] at hc
        have HE : Hid (s ++ xnw v = lb (xj4 (zs.take (0 + 1)))) := by
          show _ = _
          rw [HT.out, if_pos rfl, HS.out, List.take_zero]
          show lb [] ++ lb _ = _
          rw [← lb_app]; rfl
        generalize xnw v = S at *
        go_wp2_with fail
        refine (KH.out _).mono ?_
        rintro e w1 ⟨rfl, H1⟩
        go_wp2_with fail
        refine ⟨⟨0 + 1, by omega, by go_num, _, rfl, ?_, HE.out, HB.out.trans (H1.out.mono HB.out.size)⟩, by simp [intOf]⟩
        rw [ByteArray.size_append]; omega
      · have h0' : (0 : Int) < (k : Int) := by omega
        have HE : Hid (s ++ ⟨#[46]⟩ ++ xnw v = lb (xj4 (zs.take (k + 1)))) := by
          show _ = _
          rw [HT.out, if_neg h0, HS.out]
          show lb _ ++ lb [46] ++ lb _ = _
          rw [← lb_app, ← lb_app]; simp
        have hz5 : (⟨#[46]⟩ : ByteArray).size = 1 := rfl
        have hz4 : (s ++ ⟨#[46]⟩ : ByteArray).size = s.size + 1 := by rw [ByteArray.size_append]; rfl
        have hz6 : (s ++ ⟨#[46]⟩ ++ xnw v : ByteArray).size = s.size + 1 + (xnw v).size := by rw [ByteArray.size_append, hz4]
        generalize xnw v = S at *
        go_wp2_with fail
        refine (KH.out _).mono ?_
        rintro e w1 ⟨rfl, H1⟩
        go_wp2_with fail
        exact ⟨⟨k + 1, by omega, by go_num, _, rfl, by rw [hz6]; omega, HE.out, HB.out.trans (H1.out.mono HB.out.size)⟩, by simp [intOf]; omega⟩
    · have hge : ¬ (k : Int) < 4 := by omega
      have hks : k = zs.length := by rw [HL.out]; omega
      have HE : Hid (lb (xj4 zs) = s) := by show _ = _; rw [HS.out, List.take_of_length_le (by omega)]
      go_wp2_with fail
      exact bodyPost_ret (v := .tuple #[.string s, .int .i64 0]) (by simp [results, Tryz.results16, go_sem]) rfl ⟨by rw [HE.out], HB⟩
set_option maxRecDepth 100000 in
set_option maxHeartbeats 2000000 in
theorem raddrno (a : Option Addr) (n c : Nat) (w : World) (h4 : n ≠ 4) (h16 : n ≠ 16) :
    Calls Tryz.prog 16 #[.slice a n c] w fun e w' => e = .returned (.tuple #[.string ⟨#[]⟩, .int .i64 7]) ∧ w' = w := by
  have h1 : ((n : Int) == 4) = false := by simp; omega
  have h2 : ((n : Int) == 16) = false := by simp; omega
  have h3 : ((n : Int) != 16) = true := by simp; omega
  have h5 : ¬ (n : Int) = 4 := by omega
  have h6 : ¬ (n : Int) = 16 := by omega
  go_enter Tryz.func16, Tryz.ntmps16
  go_wp2_with fail
  exact bodyPost_ret (v := .tuple #[.string ⟨#[]⟩, .int .i64 7]) (by simp [results, Tryz.results16, go_sem]) rfl ⟨rfl, rfl⟩
theorem slI_h (g f C : Nat) (hf : f ≤ C) (hC : 0 < C) (W : World) : (Instr.slice 75 (.slice (some ⟨g, 0, none⟩) 8 C) none (some (.int .i64 (f : Int))) none).run Tryz.prog W = .ok (.slice (some ⟨g, 0, none⟩) f C) W := by
  rw [run_slice_h W 75 _ 8 C (by simp [Program.elem, Tryz.underlying75]) .i64 (f : Int) (by omega) (by omega)]
  go_simp
theorem slI_l (g t C : Nat) (ht : t ≤ 8) (hC : 8 ≤ C) : ∃ ta, (∀ W, (Instr.slice 75 (.slice (some ⟨g, 0, none⟩) 8 C) (some (.int .i64 (t : Int))) none none).run Tryz.prog W = .ok (.slice ta (8 - t) (C - t)) W) ∧ (ta = some ⟨g, t, none⟩ ∨ (ta = some ⟨g, 0, none⟩ ∧ t = 8)) := by
  by_cases h8 : C = t
  · refine ⟨some ⟨g, 0, none⟩, fun W => ?_, .inr ⟨rfl, by omega⟩⟩
    rw [run_slice_l W 75 _ 8 C (by simp [Program.elem, Tryz.underlying75]) .i64 (t : Int) (by omega) (by omega)]
    subst h8
    go_simp
  · refine ⟨some ⟨g, t, none⟩, fun W => ?_, .inl rfl⟩
    rw [run_slice_l W 75 _ 8 C (by simp [Program.elem, Tryz.underlying75]) .i64 (t : Int) (by omega) (by omega)]
    go_simp
theorem one_iv (w : World) (u : Nat) : RdV (w.alloc (.cells #[.int .i64 (u : Int)] 3)) (some ⟨w.heap.size, 0, none⟩) (iv [u]) := by
  refine .inr ⟨w.heap.size, 0, rfl, by simp, fun i hi => ?_⟩
  have : i = 0 := by simp [iv] at hi; omega
  subst this
  simp [go_sem, iv]
theorem iv_one (l : List Nat) : ∀ u ∈ iv l, u.oneCell' = true := by
  intro u hu
  obtain ⟨n, _, rfl⟩ := List.mem_map.1 hu
  rfl
/-- The first k numbers, in a list of its own. -/
def IvOwn (B : Nat) (w : World) (v : Value) (l : List Nat) : Prop := ∃ xs, OwnV B w 3 v l.length xs ∧ xs.take l.length = iv l
set_option maxRecDepth 100000 in
set_option maxHeartbeats 4000000 in
theorem raddr16 (a : Option Addr) (c : Nat) (zs : List Int) (w : World) (hr : Rd w a zs) (hl : zs.length = 16) :
    Calls Tryz.prog 16 #[.slice a 16 c] w fun e w' => e = .returned (.tuple #[.string (lb (xa6 (xprs zs))), .int .i64 0]) ∧ Hid (Below w.heap.size w w') := by
  have HR : Hid (Rd w a zs) := hr
  have HL : Hid (zs.length = 16) := hl
  have HP := Lib.hid (xprs_by zs 8 (by omega) hr.2)
  have HA : Hid (∀ k, k < 8 → (xprs zs)[k]? = some (256 * (zs.getD (2 * k) 0).toNat + (zs.getD (2 * k + 1) 0).toNat)) := fun k hk => by
    have := xprs_at k zs (by omega)
    rw [this]
  clear hr hl
  go_enter Tryz.func16, Tryz.ntmps16
  go_wp2_with fail
  go_loopw [6, 7] (fun v y wr => ∃ k i : Nat, k ≤ 8 ∧ i = 2 * k ∧ y = .int .i64 (i : Int) ∧ Hid (IvOwn w.heap.size wr v ((xprs zs).take k)) ∧ Hid (Below w.heap.size w wr)) (fun _ y _ => 16 - (intOf y).toNat)
  case atStart => exact ⟨0, 0, Nat.zero_le _, rfl, rfl, ⟨[], OwnV.nil _ _ _, rfl⟩, Below.refl _ _⟩
  case round =>
    obtain ⟨k, i, hk, hi, rfl, HO, HB⟩ := hrel
    by_cases hlt : k < 8
    · have hlt' : (i : Int) < 16 := by omega
      have hkl : i + 1 < zs.length := by rw [HL.out]; omega
      have b1 := HR.out.bd i
      have b2 := HR.out.bd (i + 1)
      have hA := HA.out k hlt
      rw [← hi] at hA
      have HI : Hid (i = 2 * k) := hi
      rcases HR.out.1 with e1 | ⟨b, o, rfl, hbb, e2⟩
      · rw [e1] at hkl; simp at hkl
      have c1 := (HB.out.cell (p := ⟨b, o + i, none⟩) hbb).trans (e2 i (by omega))
      have c2 := (HB.out.cell (p := ⟨b, o + (i + 1), none⟩) hbb).trans (e2 (i + 1) hkl)
      clear e2
      generalize zs.getD i 0 = x at *
      generalize zs.getD (i + 1) 0 = y at *
      obtain ⟨u, hu⟩ : ∃ u : Nat, 256 * x.toNat + y.toNat = u := ⟨_, rfl⟩
      have hu2 : 256 * x + y = (u : Int) := by omega
      have HT : Hid ((xprs zs).take (k + 1) = (xprs zs).take k ++ [u]) := by show _ = _; rw [List.take_add_one, hA, hu]; rfl
      have HN : Hid (((xprs zs).take k).length = k) := by show _ = _; rw [List.length_take, HP.out.1]; omega
      have w1 : IntKind.i64.wrap x = x := by rw [IntKind.wrap_i64]; omega
      have w2 : IntKind.i64.wrap y = y := by rw [IntKind.wrap_i64]; omega
      have w3 : IntKind.i64.wrap (256 * x) = 256 * x := by rw [IntKind.wrap_i64]; omega
      have w4 : IntKind.i64.wrap (256 * x + y) = (u : Int) := by rw [IntKind.wrap_i64]; omega
      have w5 : IntKind.i64.wrap ((i : Int) + 1) = (i : Int) + 1 := by rw [IntKind.wrap_i64]; omega
      have hi1 : ((i : Int) + 1).toNat = i + 1 := by omega
      have hi2 : (i : Int) + 1 < 16 := by omega
      have hi3 : 0 ≤ (i : Int) + 1 := by omega
      obtain ⟨xs, hO, hT⟩ := HO.out
      rw [HN.out] at hO hT
      have HOX : Hid (OwnV w.heap.size wr 3 u6 k xs ∧ xs.take k = iv ((xprs zs).take k)) := ⟨hO, hT⟩
      have hbs : w.heap.size ≤ wr.heap.size := HB.out.size
      have hi16 : i + 2 ≤ 16 := by omega
      clear hO hT HO hA hi hu hu2 hkl
      go_wp2_with fail
      go_region_held3 (fun W => W.cell? ⟨b, o + i, none⟩ = some (.int .u8 x) ∧ W.cell? ⟨b, o + (i + 1), none⟩ = some (.int .u8 y)) (exact ⟨by go_keep, by go_keep⟩) (first
        | (refine step_append_row tyI rfl _ _ 75 rfl w.heap.size _ k xs rfl ?_ _ 1 (iv [u]) rfl (src_of Tryz.underlying75 (one_iv wr.drew u) rfl (iv_one [u])) ?_ ?_ ?_ ?_; exact HOX.out.1.below ((Below.refl _ _).drew.alloc (Nat.le_refl _) _); omega; (simp only [maxLen]; omega); (simp; omega); intro v' w' xs' hO' hT' hG' hQ'; have k1 : w'.cell? ⟨b, o + i, none⟩ = some (.int .u8 x) := (World.cell?_of_block (w := wr) (a := ⟨b, o + i, none⟩) ((hG'.out.block b (by simp; omega) (fun e => by have := HOX.out.1.lt b e.symm; omega)).trans (Below.heap_alloc wr.drew _ b (by show b < wr.heap.size; omega)))).trans c1; have k2 : w'.cell? ⟨b, o + (i + 1), none⟩ = some (.int .u8 y) := (World.cell?_of_block (w := wr) (a := ⟨b, o + (i + 1), none⟩) ((hG'.out.block b (by simp; omega) (fun e => by have := HOX.out.1.lt b e.symm; omega)).trans (Below.heap_alloc wr.drew _ b (by show b < wr.heap.size; omega)))).trans c2))
      clear c1 c2 k1 k2
      go_wp2
      refine ⟨⟨k + 1, i + 2, by omega, by have := HI.out; omega, by go_num, ?_, ?_⟩, by simp [intOf]; omega⟩
      · refine ⟨xs', ?_, ?_⟩
        · rw [HT.out, List.length_append, HN.out]; exact hO'.out
        · rw [HT.out, List.length_append, HN.out]
          have := hT'.out
          rw [HOX.out.2] at this
          rw [show ([u] : List Nat).length = 1 from rfl, this]; simp [iv]
      · have hal : Below w.heap.size w (wr.drew.alloc (.cells #[.int .i64 (u : Int)] 3)) := HB.out.drew.alloc hbs _
        exact hal.grown hG'.out hal.size HOX.out.1.lt
    · have hge : ¬ (i : Int) < 16 := by omega
      have hk8 : k = 8 := by omega
      subst hk8
      have hL8 : (xprs zs).length = 8 := HP.out.1
      obtain ⟨xs, hO, hT⟩ := HO.out
      have hall : (xprs zs).take 8 = xprs zs := List.take_of_length_le (by omega)
      rw [hall, hL8] at hO hT
      clear hall
      obtain ⟨L, hLL⟩ : ∃ L, xprs zs = L := ⟨_, rfl⟩
      rw [hLL] at hT hL8
      have HBD : Hid (∀ n ∈ L, n < 65536) := by rw [← hLL]; exact HP.out.2.2
      have HXL : Hid (lb (xa6 (xprs zs)) = lb (xa6 L)) := by show _ = _; rw [hLL]
      clear hLL HO HP HA HR HL hi
      rcases hO with ⟨rfl, h0, _⟩ | ⟨g, rfl, hBg, hblk, hle, hmax⟩
      · omega
      have HV : Hid (BlkV wr g 3 xs ∧ xs.take 8 = iv L ∧ L.length = 8) := ⟨hblk, hT, hL8⟩
      obtain ⟨C, hC⟩ : ∃ C, xs.length = C := ⟨_, rfl⟩
      rw [hC] at hle hmax ⊢
      have hok := xlong_ok L
      rw [hL8] at hok
      have hzl := fun f => xzr_le (L.drop f)
      have HX6 : Hid (xa6 L = if (xlong L).2 = 0 then xcol L else xcol (L.take (xlong L).1) ++ 58 :: 58 :: xcol (L.drop ((xlong L).1 + (xlong L).2))) := (show _ = _ from rfl)
      have KL : Hid (Calls Tryz.prog 46 #[.slice (some ⟨g, 0, none⟩) 8 C] wr fun e w' => e = .returned (.tuple #[.int .i64 ((xlong L).1 : Int), .int .i64 ((xlong L).2 : Int)]) ∧ w' = wr) :=
        longest_any _ 8 C L wr (by have := hblk.rd 8; rw [hT] at this; exact this) hL8 (by omega)
      obtain ⟨f, m, hfm⟩ : ∃ f m, xlong L = (f, m) := ⟨_, _, rfl⟩
      rw [hfm] at hok HX6 KL
      simp only at hok HX6 KL
      have hok2 : (m = 0 ∧ f = 8) ∨ (2 ≤ m ∧ f + m ≤ 8) := by
        rcases hok with h | ⟨h1, h2⟩
        · exact .inl h
        · have h3 := hzl f
          simp only [List.length_drop, hL8] at h3
          exact .inr ⟨h1, by omega⟩
      have hmx : C ≤ 9223372036854775807 := by simp only [maxLen] at hmax; omega
      clear hok hzl hfm hT hblk hC hmax
      rcases hok2 with ⟨rfl, rfl⟩ | ⟨hm2, hfm8⟩
      · have KC : Hid (Calls Tryz.prog 47 #[.slice (some ⟨g, 0, none⟩) 8 C] wr fun e w' => e = .returned (.string (lb (xcol L))) ∧ Hid (Below wr.heap.size wr w')) :=
          colons_any _ 8 C L wr (by have := HV.out.1.rd 8; rw [HV.out.2.1] at this; exact this) hL8 (by omega) HBD.out
        rw [if_pos rfl] at HX6
        clear hL8
        go_wp2_with fail
        refine KL.out.mono ?_
        rintro e w1 ⟨rfl, hw1⟩
        subst hw1
        go_wp2_with fail
        refine KC.out.mono ?_
        rintro e w2 ⟨rfl, H2⟩
        go_wp2_with fail
        exact bodyPost_ret (v := .tuple #[.string (lb (xcol L)), .int .i64 0]) (by simp [results, Tryz.results16, go_sem]) rfl ⟨by rw [HXL.out, HX6.out], HB.out.trans (H2.out.mono HB.out.size)⟩
      · rw [if_neg (by omega)] at HX6
        obtain ⟨t, ht⟩ : ∃ t, f + m = t := ⟨_, rfl⟩
        rw [ht] at HX6
        have hwt : IntKind.i64.wrap ((f : Int) + (m : Int)) = (t : Int) := by rw [IntKind.wrap_i64]; omega
        have hm0 : ((m : Int) == 0) = false := by simp; omega
        have hm1 : ¬ (m : Int) = 0 := by omega
        have hcl : ∀ l : List Nat, (∀ n ∈ l, n < 65536) → l.length ≤ 8 → (lb (xcol l)).size ≤ 100 := fun l h1 h2 => by
          have := xcol_len l h1
          rw [lb_size]; omega
        obtain ⟨r1, hr1⟩ : ∃ r, lb (xcol (L.take f)) = r := ⟨_, rfl⟩
        obtain ⟨r2, hr2⟩ : ∃ r, lb (xcol (L.drop t)) = r := ⟨_, rfl⟩
        have z1 : r1.size ≤ 100 := by rw [← hr1]; exact hcl _ (fun n hn => HBD.out n (List.mem_of_mem_take hn)) (by simp; omega)
        have z2 : r2.size ≤ 100 := by rw [← hr2]; exact hcl _ (fun n hn => HBD.out n (List.mem_of_mem_drop hn)) (by simp; omega)
        have HRR : Hid (lb (xcol (L.take f)) = r1 ∧ lb (xcol (L.drop t)) = r2) := ⟨hr1, hr2⟩
        have hs1 := slI_h g f C (by omega) (by omega)
        obtain ⟨ta, hs2, hta⟩ := slI_l g t C (by omega) hle
        have hkey : ∀ W, BlkV W g 3 xs → RdV W ta (iv (L.drop t)) := by
          intro W hW
          rcases hta with rfl | ⟨rfl, ht8⟩
          · have := hW.rd 8
            rw [HV.out.2.1] at this
            have h2 := this.cut t (8 - t) (a' := some ⟨g, t, none⟩) (fun _ b o e => by injection e with e; injection e with e1 e2; subst e1; subst e2; simp)
            have e3 : ((iv L).drop t).take (8 - t) = iv (L.drop t) := by
              rw [List.take_of_length_le (by simp [iv, hL8])]
              simp [iv]
            rw [e3] at h2
            exact h2
          · have : iv (L.drop t) = [] := by rw [List.drop_eq_nil_of_le (by omega)]; rfl
            rw [this]; exact .inl rfl
        have K : Hid (∀ W v r, Hid (BlkV W g 3 xs ∧ Below w.heap.size w W) → ((v = .slice (some ⟨g, 0, none⟩) f C ∧ r = r1) ∨ (v = .slice ta (8 - t) (C - t) ∧ r = r2)) → Calls Tryz.prog 47 #[v] W fun e w' => e = .returned (.string r) ∧ Hid (BlkV w' g 3 xs ∧ Below w.heap.size w w')) := by
          intro W v r HS hv
          have fin : ∀ w', Below W.heap.size W w' → (BlkV w' g 3 xs ∧ Below w.heap.size w w') := fun w' h => ⟨HS.out.1.below h, HS.out.2.trans (h.mono HS.out.2.size)⟩
          rcases hv with ⟨rfl, rfl⟩ | ⟨rfl, rfl⟩
          · refine (colons_any (some ⟨g, 0, none⟩) f C (L.take f) W (by
              have h8 := HS.out.1.rd 8
              rw [HV.out.2.1] at h8
              have h2 := h8.cut 0 f (a' := some ⟨g, 0, none⟩) (fun _ b o e => by injection e with e; injection e with e1 e2; subst e1; subst e2; rfl)
              rw [List.drop_zero, show (iv L).take f = iv (L.take f) by simp [iv]] at h2
              exact h2) (by simp; omega) (by omega) (fun n hn => HBD.out n (List.mem_of_mem_take hn))).mono ?_
            rintro e w' ⟨rfl, H⟩
            exact ⟨by rw [HRR.out.1], fin w' H.out⟩
          · refine (colons_any ta (8 - t) (C - t) (L.drop t) W (hkey W HS.out.1) (by simp; omega) (by omega) (fun n hn => HBD.out n (List.mem_of_mem_drop hn))).mono ?_
            rintro e w' ⟨rfl, H⟩
            exact ⟨by rw [HRR.out.2], fin w' H.out⟩
        have HS : Hid (BlkV wr g 3 xs ∧ Below w.heap.size w wr) := ⟨HV.out.1, HB.out⟩
        have HD : Hid (∀ W, Hid (BlkV W g 3 xs ∧ Below w.heap.size w W) → Hid (BlkV W.drew g 3 xs ∧ Below w.heap.size w W.drew)) := fun W h => ⟨h.out.1, h.out.2.trans (Below.refl _ _).drew⟩
        have HEE : Hid (lb (xa6 L) = r1 ++ ⟨#[58, 58]⟩ ++ r2) := by
          show _ = _
          rw [HX6.out, ← HRR.out.1, ← HRR.out.2]
          apply ByteArray.ext
          simp [lb, txt]
        have c1 : 0 ≤ (f : Int) ∧ (f : Int) ≤ (C : Int) := by omega
        have c2 : 0 ≤ (t : Int) ∧ (t : Int) ≤ 8 := by omega
        clear hr1 hr2 hkey hta hcl HRR HBD HB HV HX6 hL8 ht hfm8 hm2
        go_wp2_with fail
        refine KL.out.mono ?_
        rintro e w1 ⟨rfl, hw1⟩
        subst hw1
        go_wp2_with fail
        go_region_with (go_at_call 47; refine (K.out _ _ _ (by first | exact HS | exact HD.out _ HS) (by first | exact .inl ⟨rfl, rfl⟩ | exact .inr ⟨rfl, rfl⟩)).mono ?_; rintro e w9 ⟨rfl, HS⟩)
        all_goals
          go_wp2
          exact bodyPost_ret (v := .tuple #[.string (r1 ++ ⟨#[58, 58]⟩ ++ r2), .int .i64 0]) (by simp [results, Tryz.results16, go_sem]) rfl ⟨by rw [HXL.out, HEE.out], HS.out.2⟩
theorem raddr_any (a : Option Addr) (n c : Nat) (zs : List Int) (w : World) (hr : Rd w a zs) (hl : zs.length = n) :
    Calls Tryz.prog 16 #[.slice a n c] w fun e w' => e = .returned (.tuple #[.string (xaddrR zs).1, .int .i64 (xaddrR zs).2]) ∧ Hid (Below w.heap.size w w') := by
  by_cases h4 : n = 4
  · subst h4; rw [addrR4 zs hl]; exact raddr4 a c zs w hr hl
  · by_cases h16 : n = 16
    · subst h16; rw [addrR16 zs hl]; exact raddr16 a c zs w hr hl
    · rw [addrRno zs (by omega) (by omega)]
      exact (raddrno a n c w h4 h16).mono fun e w' h => ⟨h.1, by rw [h.2]; exact Below.refl _ _⟩
end Go.Proofs.YtfkfjodfjgjbkaaGreatDoor
namespace Go.Proofs.YtfkfjodfjgjbkaaGreatDoor
open Go.ChangeShapes Go.WideShapes Go.ChangeAt Go.RowKit
set_option linter.unusedVariables false
set_option linter.unusedSimpArgs false
open Go.Lib (decDigits)
/-- A kind: own words with their numbers. -/
abbrev Own4 := List (List UInt8 × Nat)
/-- The word of a number. -/
def tellF (ps : Own4) (pre : List UInt8) (n : Nat) : List UInt8 :=
  match ps.find? (fun p => p.2 == n) with
  | some p => p.1
  | none => pre ++ decDigits n
/-- One step of a search. -/
theorem find_step {α : Type} (f : α → Bool) (l : List α) (j : Nat) (h : ∀ p ∈ l.take j, f p = false) (p : α) (hp : l[j]? = some p) :
    (f p = true → l.find? f = some p) ∧ (f p = false → ∀ q ∈ l.take (j + 1), f q = false) := by
  have hj : j < l.length := (List.getElem?_eq_some_iff.1 hp).1
  have e : l[j] = p := by rw [List.getElem?_eq_getElem hj] at hp; exact Option.some.inj hp
  constructor
  · intro hf
    have : l = l.take j ++ p :: l.drop (j + 1) := by rw [← e, ← List.drop_eq_getElem_cons hj, List.take_append_drop]
    rw [this, List.find?_append, List.find?_eq_none.2 (fun x hx => by rw [h x hx]; simp)]
    simp [hf]
  · intro hf q hq
    rw [List.take_succ_eq_append_getElem hj, e] at hq
    simp only [List.mem_append, List.mem_singleton] at hq
    rcases hq with hq | hq
    · exact h q hq
    · subst hq; exact hf
theorem find_end {α : Type} (f : α → Bool) (l : List α) (j : Nat) (h : ∀ p ∈ l.take j, f p = false) (hj : l.length ≤ j) : l.find? f = none := by
  rw [List.take_of_length_le hj] at h
  exact List.find?_eq_none.2 (fun x hx => by rw [h x hx]; simp)
def typesP : ByteArray := ⟨#[84, 89, 80, 69]⟩
def typesW : Own4 := [([65], 1), ([78, 83], 2), ([67, 78, 65, 77, 69], 5), ([83, 79, 65], 6), ([80, 84, 82], 12), ([77, 88], 15), ([84, 88, 84], 16), ([65, 65, 65, 65], 28), ([83, 82, 86], 33), ([79, 80, 84], 41), ([65, 78, 89], 255), ([67, 65, 65], 257)]
def knownF (t : Int) : Bool := [1, 2, 5, 6, 12, 15, 16, 28, 33, 257].contains t
/-- The words and the numbers of a kind, in two blocks. -/
def RK (w : World) (b1 b2 : Nat) (ps : Own4) : Prop :=
  b1 < w.heap.size ∧ b2 < w.heap.size ∧ ∀ j p, ps[j]? = some p → w.cell? ⟨b1, j, none⟩ = some (.string ⟨p.1.toArray⟩) ∧ w.cell? ⟨b2, j, none⟩ = some (.int .i64 p.2)
theorem RK.below {w w' : World} {b1 b2 : Nat} {ps : Own4} (h : RK w b1 b2 ps) (hb : Below w.heap.size w w') : RK w' b1 b2 ps :=
  ⟨Nat.lt_of_lt_of_le h.1 hb.size, Nat.lt_of_lt_of_le h.2.1 hb.size, fun j p hp => ⟨(hb.cell (p := ⟨b1, j, none⟩) h.1).trans (h.2.2 j p hp).1, (hb.cell (p := ⟨b2, j, none⟩) h.2.1).trans (h.2.2 j p hp).2⟩⟩
/-- The document's kind in a block of its own. -/
def RBox (w : World) (b b1 b2 N : Nat) (pre : ByteArray) (many : Int) : Prop :=
  w.cell? ⟨b, 0, none⟩ = some (.slice (some ⟨b1, 0, none⟩) N N) ∧ w.cell? ⟨b, 1, none⟩ = some (.slice (some ⟨b2, 0, none⟩) N N) ∧ w.cell? ⟨b, 2, none⟩ = some (.string pre) ∧ w.cell? ⟨b, 3, none⟩ = some (.int .i64 many) ∧ b < w.heap.size
theorem RBox.new (w : World) (b1 b2 N : Nat) (pre : ByteArray) (many : Int) : RBox (w.alloc (.cells #[.slice (some ⟨b1, 0, none⟩) N N, .slice (some ⟨b2, 0, none⟩) N N, .string pre, .int .i64 many] 114)) w.heap.size b1 b2 N pre many := by
  refine ⟨?_, ?_, ?_, ?_, by simp⟩ <;> (unfold World.cell?; rw [heap_alloc_new]; rfl)
theorem RBox.below {w w' : World} {b b1 b2 N : Nat} {pre : ByteArray} {many : Int} (h : RBox w b b1 b2 N pre many) (hb : Below w.heap.size w w') : RBox w' b b1 b2 N pre many :=
  ⟨(hb.cell (p := ⟨b, 0, none⟩) h.2.2.2.2).trans h.1, (hb.cell (p := ⟨b, 1, none⟩) h.2.2.2.2).trans h.2.1, (hb.cell (p := ⟨b, 2, none⟩) h.2.2.2.2).trans h.2.2.1, (hb.cell (p := ⟨b, 3, none⟩) h.2.2.2.2).trans h.2.2.2.1, Nat.lt_of_lt_of_le h.2.2.2.2 hb.size⟩
set_option maxRecDepth 100000 in
set_option maxHeartbeats 1000000 in
theorem rtell_any (b1 b2 N : Nat) (pre : ByteArray) (many : Int) (ps : Own4) (n : Nat) (hn : n < 65536) (hN : ps.length = N) (hN2 : N ≤ 1000) (hpre : pre.size ≤ 100) (w : World) (hR : RK w b1 b2 ps) :
    Calls Tryz.prog 75 #[.agg #[.slice (some ⟨b1, 0, none⟩) N N, .slice (some ⟨b2, 0, none⟩) N N, .string pre, .int .i64 many], .int .i64 n] w fun e w' => e = .returned (.string ⟨(tellF ps pre.data.toList n).toArray⟩) ∧ Hid (Below w.heap.size w w') := by
  have HB : Hid (Below w.heap.size w (w.alloc (.cells #[.slice (some ⟨b1, 0, none⟩) N N, .slice (some ⟨b2, 0, none⟩) N N, .string pre, .int .i64 many] 114))) := (Below.refl _ _).alloc (Nat.le_refl _) _
  have HX : Hid (RBox (w.alloc (.cells #[.slice (some ⟨b1, 0, none⟩) N N, .slice (some ⟨b2, 0, none⟩) N N, .string pre, .int .i64 many] 114)) w.heap.size b1 b2 N pre many) := RBox.new w b1 b2 N pre many
  have HR : Hid (RK (w.alloc (.cells #[.slice (some ⟨b1, 0, none⟩) N N, .slice (some ⟨b2, 0, none⟩) N N, .string pre, .int .i64 many] 114)) b1 b2 ps) := hR.below HB.out
  have HN : Hid (ps.length = N) := hN
  clear hR hN
  go_enter Tryz.func75, Tryz.ntmps75
  go_wp2_with fail
  generalize (w.alloc (.cells #[.slice (some ⟨b1, 0, none⟩) N N, .slice (some ⟨b2, 0, none⟩) N N, .string pre, .int .i64 many] 114)) = W1 at *
  go_loopw [5] (fun x wr => wr = W1 ∧ ∃ j : Nat, j ≤ N ∧ x = .int .i64 (j : Int) ∧ Hid (∀ p ∈ ps.take j, (p.2 == n) = false)) (fun x _ => N - (intOf x).toNat)
  case atStart => exact ⟨rfl, 0, Nat.zero_le _, rfl, by intro p hp; simp at hp⟩
  case round =>
    obtain ⟨rfl, j, hj, rfl, HF⟩ := hrel
    have c0 := HX.out.1
    have c1 := HX.out.2.1
    by_cases hlt : j < N
    · have hlt' : (j : Int) < (N : Int) := by omega
      obtain ⟨p, hp⟩ : ∃ p, ps[j]? = some p := ⟨_, List.getElem?_eq_getElem (by rw [HN.out]; exact hlt)⟩
      obtain ⟨d1, d2⟩ := HR.out.2.2 j p hp
      have HS : Hid (((p.2 == n) = true → ps.find? (fun q => q.2 == n) = some p) ∧ ((p.2 == n) = false → ∀ q ∈ ps.take (j + 1), (q.2 == n) = false)) := find_step (fun (q : List UInt8 × Nat) => q.2 == n) ps j HF.out p hp
      by_cases he : p.2 = n
      · have HT : Hid (tellF ps pre.data.toList n = p.1) := by
          have := HS.out.1 (by simp [he])
          show _ = _
          simp [tellF, this]
        rw [he] at d2
        clear HS he
        go_wp2_with fail
        go_ret
        exact ⟨by rw [HT.out]; rfl, HB.out⟩
      · have HS2 : Hid (∀ q ∈ ps.take (j + 1), (q.2 == n) = false) := HS.out.2 (by simp [he])
        have hq : ((p.2 : Int) == (n : Int)) = false := by simp; omega
        have hq2 : (p.2 == n) = false := by simp [he]
        clear HS he
        go_wp2_with fail
        refine ⟨⟨by first | rfl | trivial, j + 1, by omega, by go_num, HS2⟩, ?_⟩
        simp [intOf]; omega
    · have hge : ¬ (j : Int) < (N : Int) := by omega
      have HT : Hid (tellF ps pre.data.toList n = pre.data.toList ++ Lib.decDigits n) := by
        have := find_end (fun (q : List UInt8 × Nat) => q.2 == n) ps j HF.out (by rw [HN.out]; omega)
        show _ = _
        simp [tellF, this]
      have c2 := HX.out.2.2.1
      have hbl := HX.out.2.2.2.2
      have KD : Hid (∀ W, Calls Tryz.prog 45 #[.int .i64 n] W fun e w' => e = .returned (.string ⟨(Lib.decDigits n).toArray⟩) ∧ Hid (Below W.heap.size W w')) := fun W => rdec_any n (by omega) W
      have hcat : ¬ 9223372036854775807 < pre.size + (Lib.decDigits n).length := by
        have := ddec_len n (by omega)
        omega
      have HBd : Hid (Below w.heap.size w wr.drew ∧ w.heap.size ≤ wr.drew.heap.size) := ⟨HB.out.drew, HB.out.size⟩
      clear HF HR HX HB HN
      obtain ⟨b, hb⟩ : ∃ b, b = w.heap.size := ⟨_, rfl⟩
      rw [← hb] at c0 c1 c2 hbl HBd ⊢
      have Hb : Hid (b = w.heap.size) := hb
      clear hb
      go_wp2_with fail
      go_region_held3 (fun W => W.cell? ⟨b, 2, none⟩ = some (.string pre)) (go_keep) (first
        | (go_at_call 45; refine (KD.out _).mono ?_; rintro e W2 ⟨rfl, H2⟩; have d2 : W2.cell? ⟨b, 2, none⟩ = some (.string pre) := (H2.out.cell (p := ⟨b, 2, none⟩) hbl).trans c2))
      all_goals
        go_wp2_with fail
        go_ret
        refine ⟨by rw [HT.out, cat_txt]; rfl, ?_⟩
        rw [← Hb.out]
        exact HBd.out.1.trans (H2.out.mono HBd.out.2)
theorem alloc_size (w : World) (o : Obj) : (w.alloc o).heap.size = w.heap.size + 1 := by simp
theorem rk_new (w : World) (o : Obj) (ps : Own4) : RK (((w.alloc o).alloc (.cells (ps.map fun p => Value.string ⟨p.1.toArray⟩).toArray 9)).alloc (.cells (ps.map fun p => Value.int .i64 (p.2 : Int)).toArray 3)) (w.heap.size + 1) (w.heap.size + 1 + 1) ps ∧
    Below w.heap.size w (((w.alloc o).alloc (.cells (ps.map fun p => Value.string ⟨p.1.toArray⟩).toArray 9)).alloc (.cells (ps.map fun p => Value.int .i64 (p.2 : Int)).toArray 3)) := by
  refine ⟨⟨by simp only [alloc_size]; omega, by simp only [alloc_size]; omega, fun j p hp => ⟨?_, ?_⟩⟩, ?_⟩
  · have h1 := Below.heap_alloc ((w.alloc o).alloc (.cells (ps.map fun p => Value.string ⟨p.1.toArray⟩).toArray 9)) (.cells (ps.map fun p => Value.int .i64 (p.2 : Int)).toArray 3) (w.heap.size + 1) (by simp only [alloc_size]; omega)
    have h2 := heap_alloc_new (w.alloc o) (.cells (ps.map fun p => Value.string ⟨p.1.toArray⟩).toArray 9)
    rw [alloc_size] at h2
    unfold World.cell?
    rw [h1, h2]
    simp [hp]
  · have h2 := heap_alloc_new ((w.alloc o).alloc (.cells (ps.map fun p => Value.string ⟨p.1.toArray⟩).toArray 9)) (.cells (ps.map fun p => Value.int .i64 (p.2 : Int)).toArray 3)
    rw [alloc_size, alloc_size] at h2
    unfold World.cell?
    rw [h2]
    simp [hp]
  · exact (((Below.refl _ _).alloc (Nat.le_refl _) _).alloc (by rw [alloc_size]; omega) _).alloc (by simp only [alloc_size]; omega) _
set_option maxRecDepth 100000 in
set_option maxHeartbeats 1000000 in
theorem rtypes_any (w : World) : Calls Tryz.prog 76 #[] w fun e w' => ∃ b1 b2, e = .returned (.agg #[.slice (some ⟨b1, 0, none⟩) 12 12, .slice (some ⟨b2, 0, none⟩) 12 12, .string typesP, .int .i64 65536]) ∧ Hid (RK w' b1 b2 typesW) ∧ Hid (Below w.heap.size w w') := by
  go_enter Tryz.func76, Tryz.ntmps76
  go_wp2_with fail
  refine bodyPost_ret (v := .agg #[.slice (some ⟨w.heap.size + 1, 0, none⟩) 12 12, .slice (some ⟨w.heap.size + 1 + 1, 0, none⟩) 12 12, .string typesP, .int .i64 65536]) (by simp [results, Tryz.results76, go_sem]; rfl) rfl ⟨_, _, rfl, ?_, ?_⟩
  · exact (rk_new w _ typesW).1
  · exact (rk_new w _ typesW).2
theorem tellF_own (ps : Own4) (pre : List UInt8) (n : Nat) (p : List UInt8 × Nat) (h : ps.find? (fun p => p.2 == n) = some p) : tellF ps pre n = p.1 := by
  unfold tellF; rw [h]
theorem tellF_pre (ps : Own4) (pre : List UInt8) (n : Nat) (h : ps.find? (fun p => p.2 == n) = none) : tellF ps pre n = pre ++ Lib.decDigits n := by
  unfold tellF; rw [h]
/-- A type's own word begins as no other's. -/
theorem known_word (t : Nat) (ht : t < 65536) : (decide (t ≠ 41) && decide (t ≠ 255) && !(tellF typesW typesP.data.toList t == typesP.data.toList ++ Lib.decDigits t)) = knownF (t : Int) := by
  cases hf : typesW.find? (fun p => p.2 == t) with
  | some p =>
    rw [tellF_own _ _ _ p hf]
    have hp := List.mem_of_find?_eq_some hf
    have e : p.2 = t := by simpa using List.find?_some hf
    have hno : (typesW.all fun p => !typesP.data.toList.isPrefixOf p.1) = true := by decide +kernel
    have hb : (p.1 == typesP.data.toList ++ Lib.decDigits t) = false := by
      cases hq : p.1 == typesP.data.toList ++ Lib.decDigits t with
      | false => rfl
      | true =>
        have := List.all_eq_true.1 hno p hp
        rw [eq_of_beq hq, List.isPrefixOf_iff_prefix.2 (List.prefix_append _ _)] at this
        cases this
    rw [hb]
    subst e
    have hall : (typesW.all fun p => (decide (p.2 ≠ 41) && decide (p.2 ≠ 255) && !false) == knownF (p.2 : Int)) = true := by decide +kernel
    exact eq_of_beq (List.all_eq_true.1 hall p hp)
  | none =>
    rw [tellF_pre _ _ _ hf]
    have hn : ∀ k ∈ ([1, 2, 5, 6, 12, 15, 16, 28, 33, 257] : List Nat), t ≠ k := by
      intro k hk e
      subst e
      have hall : ∀ k ∈ ([1, 2, 5, 6, 12, 15, 16, 28, 33, 257] : List Nat), (typesW.find? (fun p => p.2 == k)).isSome = true := by decide +kernel
      have := hall t hk
      rw [hf] at this
      cases this
    have hk : knownF (t : Int) = false := by
      simp only [List.mem_cons, List.not_mem_nil, or_false, forall_eq_or_imp, forall_eq] at hn
      simp [knownF]
      omega
    rw [hk]
    simp
set_option maxRecDepth 100000 in
set_option maxHeartbeats 1000000 in
theorem rknown_any (t : Nat) (ht : t < 65536) (w : World) : Calls Tryz.prog 39 #[.int .u16 t] w fun e w' => e = .returned (.bool (knownF t)) ∧ Hid (Below w.heap.size w w') := by
  have HK : Hid ((decide (t ≠ 41) && decide (t ≠ 255) && !(tellF typesW typesP.data.toList t == typesP.data.toList ++ Lib.decDigits t)) = knownF (t : Int)) := known_word t ht
  go_enter Tryz.func39, Tryz.ntmps39
  by_cases h0 : t = 41
  · subst h0
    go_wp2_with fail
    go_ret
    exact ⟨ret_bool (by decide), Below.refl _ _⟩
  · by_cases h1 : t = 255
    · subst h1
      go_wp2_with fail
      go_ret
      exact ⟨ret_bool (by decide), Below.refl _ _⟩
    · have q0 : ((t : Int) != 41) = true := by simp; omega
      have q1 : ((t : Int) != 255) = true := by simp; omega
      have hw : IntKind.i64.wrap (t : Int) = (t : Int) := by rw [IntKind.wrap_i64]; omega
      go_wp2_with fail
      refine (rtypes_any w).mono ?_
      rintro e W1 ⟨b1, b2, rfl, HR, H1⟩
      go_wp2_with fail
      refine (rtell_any b1 b2 12 typesP _ typesW t ht rfl (by decide) (by decide +kernel) W1 HR.out).mono ?_
      rintro e W2 ⟨rfl, H2⟩
      have HB2 : Hid (Below w.heap.size w W2) := H1.out.trans (H2.out.mono H1.out.size)
      clear HR H1 H2
      go_wp2_with fail
      refine (rdec_any t (by omega) W2).mono ?_
      rintro e W3 ⟨rfl, H3⟩
      have HB3 : Hid (Below w.heap.size w W3) := HB2.out.trans (H3.out.mono HB2.out.size)
      have hcat : ¬ 9223372036854775807 < 4 + (Lib.decDigits t).length := by
        have := ddec_len t (by omega)
        omega
      clear HB2 H3
      have HK2 : Hid ((!(tellF typesW typesP.data.toList t == typesP.data.toList ++ Lib.decDigits t)) = knownF (t : Int)) := by
        have := HK.out
        rw [decide_eq_true h0, decide_eq_true h1] at this
        exact this
      clear HK
      generalize tellF typesW typesP.data.toList t = lw at *
      go_wp2_with fail
      go_ret
      refine ⟨ret_bool ?_, HB3.out⟩
      rw [← HK2.out]
      have e : ((⟨#[84, 89, 80, 69]⟩ : ByteArray) ++ (⟨(Lib.decDigits t).toArray⟩ : ByteArray)).toList = typesP.data.toList ++ Lib.decDigits t := by rw [cat_txt, ByteArray.toList_eq]; rfl
      rw [e]
end Go.Proofs.YtfkfjodfjgjbkaaGreatDoor
namespace Go.Proofs.YtfkfjodfjgjbkaaGreatDoor
open Go.ChangeShapes Go.WideShapes Go.ChangeAt Go.RowKit
set_option linter.unusedVariables false
set_option linter.unusedSimpArgs false
theorem lb_cat (a b : List Int) : lb a ++ lb b = lb (a ++ b) := (lb_app a b).symm
set_option maxRecDepth 100000 in
set_option maxHeartbeats 4000000 in
theorem resc_any (c : Int) (hc : 0 ≤ c ∧ c ≤ 255) (w : World) : Calls Tryz.prog 50 #[.int .u8 c] w fun e w' => e = .returned (.string (lb [92, 48 + c / 100, 48 + c / 10 % 10, 48 + c % 10])) ∧ Hid (Below w.heap.size w w') := by
  have hr := new_rd4 w 92 (48 + c / 100) (48 + c / 10 % 10) (48 + c % 10) (by omega) (by omega) (by omega) (by omega)
  have hcv := conv_rd (some ⟨w.heap.size, 0, none⟩) 4 4 _ _ hr rfl
  have HB : Hid (Below w.heap.size w (w.alloc (.cells #[.int .u8 92, .int .u8 (48 + c / 100), .int .u8 (48 + c / 10 % 10), .int .u8 (48 + c % 10)] 5))) := (Below.refl _ _).alloc (Nat.le_refl _) _
  clear hr
  go_enter Tryz.func50, Tryz.ntmps50
  go_wp2_with fail
  go_ret
  exact ⟨rfl, HB.out⟩
set_option maxRecDepth 100000 in
set_option maxHeartbeats 4000000 in
theorem rquote_any (s : ByteArray) (w : World) (hs : s.size ≤ 1000000000) :
    Calls Tryz.prog 19 #[.string s] w fun e w' => e = .returned (.string (lb (xquote (nums s)))) ∧ Hid (Below w.heap.size w w') := by
  go_enter Tryz.func19, Tryz.ntmps19
  go_wp2_with fail
  go_loopw [3, 4] (fun v x wr => ∃ k : Nat, k ≤ s.size ∧ x = .int .i64 k ∧ ∃ o : ByteArray, v = .string o ∧ Hid (o = lb (34 :: xq ((nums s).take k))) ∧ Hid (Below w.heap.size w wr)) (fun _ x _ => s.size - (intOf x).toNat)
  case atStart => exact ⟨0, Nat.zero_le _, rfl, _, rfl, rfl, Below.refl _ _⟩
  case round =>
    obtain ⟨k, hk, rfl, o, rfl, HO, HB⟩ := hrel
    have hz1 : o.size ≤ 4 * k + 1 := by
      rw [HO.out, lb_size, List.length_cons]
      have h1 := xq_len ((nums s).take k)
      have h2 : ((nums s).take k).length ≤ k := by simp; omega
      omega
    by_cases hlt : k < s.size
    · have hz2 : (lb (xq1 (s[k].toNat : Int))).size ≤ 4 := by rw [lb_size]; exact xq1_len _
      have hlt' : (k : Int) < (s.size : Int) := by omega
      have hbd := nums_bd s k
      have HT : Hid ((nums s).take (k + 1) = (nums s).take k ++ [(nums s).getD k 0]) := take_snoc _ _ (by rw [nums_len]; exact hlt)
      rw [nums_at s k hlt] at hbd HT
      have HN : Hid (lb (34 :: xq ((nums s).take (k + 1))) = o ++ lb (xq1 (s[k].toNat : Int))) := by
        show _ = _
        rw [HT.out, xq_snoc, HO.out, lb_cat]; rfl
      by_cases hu : (s[k].toNat : Int) < 32 ∨ 126 < (s[k].toNat : Int)
      · have HX : Hid (xq1 (s[k].toNat : Int) = [92, 48 + (s[k].toNat : Int) / 100, 48 + (s[k].toNat : Int) / 10 % 10, 48 + (s[k].toNat : Int) % 10]) := by show _ = _; unfold xq1; rw [if_pos hu]
        have KE : Hid (Calls Tryz.prog 50 #[.int .u8 (s[k].toNat : Int)] wr fun e w' => e = .returned (.string (lb (xq1 (s[k].toNat : Int)))) ∧ Hid (Below wr.heap.size wr w')) := by
          show Calls _ _ _ _ _
          rw [HX.out]; exact resc_any _ hbd wr
        rcases hu with hu | hu
        all_goals
          go_wp2_with fail
          refine KE.out.mono ?_
          rintro e W2 ⟨rfl, H2⟩
          go_wp2_with fail
          exact ⟨⟨k + 1, by omega, by go_num, _, rfl, HN.out.symm, HB.out.trans (H2.out.mono HB.out.size)⟩, by simp [intOf]; omega⟩
      · have h1 : ¬ (s[k].toNat : Int) < 32 := by omega
        have h2 : ¬ 126 < (s[k].toNat : Int) := by omega
        obtain ⟨q, hq⟩ : ∃ q : ByteArray, q = lb [(s[k].toNat : Int)] := ⟨_, rfl⟩
        have hcv : (convert 27 9 (.slice (some ⟨wr.heap.size, 0, none⟩) 1 1)).run Tryz.prog (wr.alloc (.cells #[.int .u8 (s[k].toNat : Int)] 5)) = .ok (.string q) (wr.alloc (.cells #[.int .u8 (s[k].toNat : Int)] 5)) := by
          rw [hq]; exact conv_rd (some ⟨wr.heap.size, 0, none⟩) 1 1 _ _ (new_rd wr (s[k].toNat : Int) hbd) rfl
        have hz3 : q.size = 1 := by rw [hq, lb_size]; rfl
        have HQ : Hid (q = lb [(s[k].toNat : Int)]) := hq
        clear hq
        have HB2 : Hid (Below w.heap.size w (wr.alloc (.cells #[.int .u8 (s[k].toNat : Int)] 5))) := HB.out.trans (((Below.refl _ _).alloc (Nat.le_refl _) _ : Below wr.heap.size wr _).mono HB.out.size)
        by_cases hp : (s[k].toNat : Int) = 34 ∨ (s[k].toNat : Int) = 92
        · have HX : Hid (xq1 (s[k].toNat : Int) = [92, (s[k].toNat : Int)]) := by show _ = _; unfold xq1; rw [if_neg hu, if_pos hp]
          obtain ⟨o2, ho2⟩ : ∃ o2 : ByteArray, o2 = o ++ ⟨#[92]⟩ := ⟨_, rfl⟩
          have hz4 : (o ++ ⟨#[92]⟩ : ByteArray).size = o.size + 1 := by rw [ByteArray.size_append]; rfl
          have hz5 : (⟨#[92]⟩ : ByteArray).size = 1 := rfl
          have HE : Hid (o ++ ⟨#[92]⟩ ++ q = lb (34 :: xq ((nums s).take (k + 1)))) := by
            show _ = _
            rw [HN.out, HX.out, HQ.out, ByteArray.append_assoc]; congr 1
          clear hu ho2 hz2
          rcases hp with hp | hp
          · rw [hp] at hcv HB2
            clear HX HQ HN hbd HT h1 h2
            go_wp2_with fail
            exact ⟨⟨k + 1, by omega, by go_num, _, rfl, HE.out, HB2.out⟩, by simp [intOf]; omega⟩
          · rw [hp] at hcv HB2
            clear HX HQ HN hbd HT h1 h2
            go_wp2_with fail
            exact ⟨⟨k + 1, by omega, by go_num, _, rfl, HE.out, HB2.out⟩, by simp [intOf]; omega⟩
        · have HX : Hid (xq1 (s[k].toNat : Int) = [(s[k].toNat : Int)]) := by show _ = _; unfold xq1; rw [if_neg hu, if_neg hp]
          have hp1 : ((s[k].toNat : Int) == 34) = false := by simp; omega
          have hp2 : ((s[k].toNat : Int) == 92) = false := by simp; omega
          have HE : Hid (o ++ q = lb (34 :: xq ((nums s).take (k + 1)))) := by
            show _ = _
            rw [HN.out, HX.out, HQ.out]
          have hp3 : ¬ (s[k].toNat : Int) = 34 := by omega
          have hp4 : ¬ (s[k].toNat : Int) = 92 := by omega
          clear hu hz2 hp HX HQ HN HT
          go_wp2_with fail
          exact ⟨⟨k + 1, by omega, by go_num, _, rfl, HE.out, HB2.out⟩, by simp [intOf]; omega⟩
    · have hge : ¬ (k : Int) < (s.size : Int) := by omega
      have hks : k = s.size := by omega
      have HF : Hid (lb (xquote (nums s)) = o ++ lb [34]) := by
        show _ = _
        rw [HO.out, lb_cat, hks, List.take_of_length_le (by rw [nums_len]; exact Nat.le_refl _)]; rfl
      go_wp2_with fail
      go_ret
      exact ⟨by rw [HF.out]; rfl, HB.out⟩
end Go.Proofs.YtfkfjodfjgjbkaaGreatDoor
namespace Go.Proofs.YtfkfjodfjgjbkaaGreatDoor
open Go.ChangeShapes Go.WideShapes Go.ChangeAt Go.RowKit
set_option linter.unusedVariables false
set_option linter.unusedSimpArgs false
/-- A list of texts of its own. -/
def TL (B : Nat) (w : World) (v : Value) (ss : List ByteArray) : Prop := ∃ ys, OwnT B w v ss.length ys 1000000 ∧ ys.take ss.length = ss
theorem TL.below {B : Nat} {w w' : World} {v : Value} {ss : List ByteArray} (h : TL B w v ss) (hb : Below w.heap.size w w') : TL B w' v ss := by
  obtain ⟨ys, h1, h2⟩ := h
  exact ⟨ys, h1.below hb, h2⟩
theorem TL.nil (B : Nat) (w : World) : TL B w (.slice none 0 0) [] := ⟨[], OwnT.nil B w _, rfl⟩
theorem TL.rd {B : Nat} {w : World} {v : Value} {ss : List ByteArray} (h : TL B w v ss) : ∃ ao c, v = .slice ao ss.length c ∧ RdT w ao ss ∧ (ao = none → c = 0) := by
  obtain ⟨ys, h1, h2⟩ := h
  obtain ⟨ao, rfl, h3⟩ := h1.shape
  have := h1.rd ss.length
  rw [h2] at this
  exact ⟨ao, ys.length, rfl, this, h3⟩
theorem TL.new (w : World) (ss : List ByteArray) (n : Nat) (hn : ss.length = n) (hm : n ≤ 1000) (hz : ∀ s ∈ ss, s.size ≤ 1000000) : TL w.heap.size (w.alloc (.cells (tv ss).toArray 9)) (.slice (some ⟨w.heap.size, 0, none⟩) n n) ss := by
  subst hn
  refine ⟨ss, ⟨.inr ⟨w.heap.size, by rw [tv_len], Nat.le_refl _, heap_alloc_new _ _, by rw [tv_len]; exact Nat.le_refl _, by rw [tv_len]; simp only [maxLen]; omega⟩, hz⟩, List.take_length⟩
theorem TL.mono {B B' : Nat} {w : World} {v : Value} {ss : List ByteArray} (h : TL B w v ss) (hb : B' ≤ B) : TL B' w v ss := by
  obtain ⟨ys, h1, h2⟩ := h
  exact ⟨ys, h1.mono hb, h2⟩
theorem wl_tl (w : World) {ops : Array Oper} {rest : List Oper} {o : Oper} {a : Act} {Q : Exit → Act → World → Prop} (hgd : o.guard = none) (s x : Operand)
    (ho : o.op = .call { callee := .builtin .append, args := #[s, x], argTypes := #[26, 26] }) (B : Nat) (v : Value) (ss : List ByteArray) (hs : a.eval s = v) (hT : TL B w v ss)
    (ao : Option Addr) (m c : Nat) (ns : List ByteArray) (hx : a.eval x = .slice ao m c) (hr : RdT w ao ns) (hl : ns.length = m) (hM : ∀ s ∈ ns, s.size ≤ 1000000) (hb : ss.length + m ≤ 100000) (hB : B ≤ w.heap.size)
    (h : ∀ v' w', Hid (TL B w' v' (ss ++ ns)) → Hid (Below B w w') → wpList Tryz.prog ops Q rest (a.put o.dst v') w') : wpList Tryz.prog ops Q (o :: rest) a w := by
  obtain ⟨ys, h1, h2⟩ := hT
  refine wpList_append_T tyT w hgd s x 26 9 Tryz.underlying26 ho B v ss.length ys 1000000 hs h1 ao m c ns hx hr hl hM (by omega) hB ?_
  intro v' w' zs hO hT hG
  refine h v' w' ⟨zs, ?_, ?_⟩ ((Below.refl B w).grown hG hB h1.1.lt)
  · rw [List.length_append, hl]; exact hO.out
  · rw [List.length_append, hl, hT.out, h2]
/-- What the document's Words answers. -/
def RwPost (t : Nat) (d : Dat) (w : World) (e : Ending) (w' : World) : Prop :=
  ∃ v, e = .returned (.tuple #[v, .int .i64 (checkF t d)]) ∧ Hid (TL w.heap.size w' v (wordsR t d) ∧ Below w.heap.size w w')
theorem addr_fst_sz (zs : List Int) (h : ∀ z ∈ zs, 0 ≤ z ∧ z ≤ 255) : (xaddrR zs).1.size ≤ 1000000 := by
  unfold xaddrR
  cases e : xaddr zs with
  | none => decide
  | some s => exact xaddr_size zs s h e
theorem addr_fst (zs : List Int) : (xaddrR zs).1 = lb ((xaddr zs).getD []) := by
  unfold xaddrR
  cases xaddr zs <;> rfl
theorem known_xkn (t : Nat) : knownF (t : Int) = xkn t := by
  unfold knownF xkn
  rw [Bool.eq_iff_iff, List.contains_iff_mem, List.contains_iff_mem]
  simp only [List.mem_cons, List.not_mem_nil, or_false]
  omega
/-- What all ways of it have at the start: the data's box, read, and checked. -/
def RwSt (w W : World) (x : DA) (d : Dat) : Prop := DBox W w.heap.size x ∧ DRd W x d ∧ Below w.heap.size w W
theorem RwSt.go {w W W' : World} {x : DA} {d : Dat} (h : RwSt w W x d) (hb : Below W.heap.size W W') : RwSt w W' x d :=
  ⟨h.1.below hb, h.2.1.below hb, h.2.2.trans (hb.mono h.2.2.size)⟩
set_option maxRecDepth 100000 in
set_option maxHeartbeats 4000000 in
theorem rwords_bad (t : Nat) (x : DA) (d : Dat) (w : World) (h : DRd w x d) (hS : Small d) (hc : checkF t d ≠ 0) :
    Calls Tryz.prog 12 #[.int .u16 t, .agg #[.slice x.p1.a x.p1.n x.p1.c, .slice x.p2.a x.p2.n x.p2.c, .slice x.p3.a x.p3.n x.p3.c, .slice x.p4.a x.p4.n x.p4.c]] w (RwPost t d w) := by
  obtain ⟨⟨a1, n1, k1⟩, ⟨a2, n2, k2⟩, ⟨a3, n3, k3⟩, ⟨a4, n4, k4⟩⟩ := x
  have H : Hid (RwSt w (w.alloc (.cells #[.slice a1 n1 k1, .slice a2 n2 k2, .slice a3 n3 k3, .slice a4 n4 k4] 29)) ⟨⟨a1, n1, k1⟩, ⟨a2, n2, k2⟩, ⟨a3, n3, k3⟩, ⟨a4, n4, k4⟩⟩ d) := ⟨DBox.new w ⟨⟨a1, n1, k1⟩, ⟨a2, n2, k2⟩, ⟨a3, n3, k3⟩, ⟨a4, n4, k4⟩⟩, h.below (new_below _ _), new_below _ _⟩
  have KC := Lib.hid (rcheck_wide t ⟨⟨a1, n1, k1⟩, ⟨a2, n2, k2⟩, ⟨a3, n3, k3⟩, ⟨a4, n4, k4⟩⟩ d _ H.out.2.1 (fun n hn => by have := hS.nl n hn; omega) (small_sizes t d hS))
  have HWR : Hid (wordsR t d = []) := by show _ = _; unfold wordsR; rw [if_neg hc]
  obtain ⟨C, hC⟩ : ∃ C, checkF t d = C := ⟨_, rfl⟩
  have HC : Hid (checkF t d = C) := hC
  rw [hC] at KC hc
  have hc1 : (C == 0) = false := by simpa using hc
  have hc2 : (C != 0) = true := by simpa using hc
  clear hC h hS
  simp only at KC
  go_enter Tryz.func12, Tryz.ntmps12
  go_wp2_with fail
  refine KC.out.mono ?_
  rintro e w2 ⟨rfl, H2⟩
  go_wp2_with fail
  refine bodyPost_ret (v := .tuple #[.slice none 0 0, .int .i64 C]) (by simp [results, Tryz.results12, go_sem]) rfl ⟨.slice none 0 0, by rw [HC.out], ?_, (H.out.go H2.out).2.2⟩
  rw [HWR.out]; exact TL.nil _ _
set_option maxRecDepth 100000 in
set_option maxHeartbeats 4000000 in
theorem rwords_addr (t : Nat) (ht : t = 1 ∨ t = 28) (x : DA) (d : Dat) (w : World) (h : DRd w x d) (hS : Small d) (hc : checkF t d = 0) :
    Calls Tryz.prog 12 #[.int .u16 t, .agg #[.slice x.p1.a x.p1.n x.p1.c, .slice x.p2.a x.p2.n x.p2.c, .slice x.p3.a x.p3.n x.p3.c, .slice x.p4.a x.p4.n x.p4.c]] w (RwPost t d w) := by
  obtain ⟨⟨a1, n1, k1⟩, ⟨a2, n2, k2⟩, ⟨a3, n3, k3⟩, ⟨a4, n4, k4⟩⟩ := x
  have H : Hid (RwSt w (w.alloc (.cells #[.slice a1 n1 k1, .slice a2 n2 k2, .slice a3 n3 k3, .slice a4 n4 k4] 29)) ⟨⟨a1, n1, k1⟩, ⟨a2, n2, k2⟩, ⟨a3, n3, k3⟩, ⟨a4, n4, k4⟩⟩ d) := ⟨DBox.new w ⟨⟨a1, n1, k1⟩, ⟨a2, n2, k2⟩, ⟨a3, n3, k3⟩, ⟨a4, n4, k4⟩⟩, h.below (new_below _ _), new_below _ _⟩
  have KC := Lib.hid (rcheck_wide t ⟨⟨a1, n1, k1⟩, ⟨a2, n2, k2⟩, ⟨a3, n3, k3⟩, ⟨a4, n4, k4⟩⟩ d _ H.out.2.1 (fun n hn => by have := hS.nl n hn; omega) (small_sizes t d hS))
  have HWR : Hid (wordsR t d = [(xaddrR d.raw).1]) := by show _ = _; unfold wordsR xwords; rw [if_pos hc, if_pos ht, addr_fst]
  have HC : Hid (checkF t d = 0) := hc
  have HLN : Hid (d.raw.length = n4) := h.h4.len
  have KA : Hid (∀ W, Rd W a4 d.raw → Calls Tryz.prog 16 #[.slice a4 n4 k4] W fun e w' => e = .returned (.tuple #[.string (xaddrR d.raw).1, .int .i64 (xaddrR d.raw).2]) ∧ Hid (Below W.heap.size W w')) := fun W hW => raddr_any a4 n4 k4 d.raw W hW HLN.out
  have hsz := addr_fst_sz d.raw h.h4.rd.2
  rw [hc] at KC
  clear hc h hS
  simp only at KC
  generalize (xaddrR d.raw).1 = S at *
  generalize (xaddrR d.raw).2 = E at *
  rcases ht with rfl | rfl
  all_goals
    go_enter Tryz.func12, Tryz.ntmps12
    go_wp2_with fail
    refine KC.out.mono ?_
    rintro e w2 ⟨rfl, H2⟩
    have HA : Hid (RwSt w w2 ⟨⟨a1, n1, k1⟩, ⟨a2, n2, k2⟩, ⟨a3, n3, k3⟩, ⟨a4, n4, k4⟩⟩ d) := H.out.go H2.out
    have d3 := HA.out.1.2.2.2.1
    simp only at d3
    clear H H2 KC
    go_wp2_with fail
    refine (KA.out _ HA.out.2.1.h4.rd).mono ?_
    rintro e w3 ⟨rfl, H3⟩
    go_wp2_with fail
    refine bodyPost_ret (v := .tuple #[.slice (some ⟨w3.heap.size, 0, none⟩) 1 1, .int .i64 0]) (by simp [results, Tryz.results12, go_sem]) rfl ⟨.slice (some ⟨w3.heap.size, 0, none⟩) 1 1, by rw [HC.out], ?_, ?_⟩
    · rw [HWR.out]
      exact (TL.new w3 [S] 1 rfl (by omega) (by intro s hs; simp at hs; subst hs; exact hsz)).mono (HA.out.go H3.out).2.2.size
    · have hb := (HA.out.go H3.out).2.2
      exact hb.trans ((new_below _ _).mono hb.size)
set_option maxRecDepth 100000 in
set_option maxHeartbeats 4000000 in
theorem rwords_raw (t : Nat) (ht : t ≠ 1 ∧ t ≠ 28) (htt : t < 65536) (hk : xkn t = false) (x : DA) (d : Dat) (w : World) (h : DRd w x d) (hS : Small d) (hc : checkF t d = 0) :
    Calls Tryz.prog 12 #[.int .u16 t, .agg #[.slice x.p1.a x.p1.n x.p1.c, .slice x.p2.a x.p2.n x.p2.c, .slice x.p3.a x.p3.n x.p3.c, .slice x.p4.a x.p4.n x.p4.c]] w (RwPost t d w) := by
  obtain ⟨⟨a1, n1, k1⟩, ⟨a2, n2, k2⟩, ⟨a3, n3, k3⟩, ⟨a4, n4, k4⟩⟩ := x
  have H : Hid (RwSt w (w.alloc (.cells #[.slice a1 n1 k1, .slice a2 n2 k2, .slice a3 n3 k3, .slice a4 n4 k4] 29)) ⟨⟨a1, n1, k1⟩, ⟨a2, n2, k2⟩, ⟨a3, n3, k3⟩, ⟨a4, n4, k4⟩⟩ d) := ⟨DBox.new w ⟨⟨a1, n1, k1⟩, ⟨a2, n2, k2⟩, ⟨a3, n3, k3⟩, ⟨a4, n4, k4⟩⟩, h.below (new_below _ _), new_below _ _⟩
  have KC := Lib.hid (rcheck_wide t ⟨⟨a1, n1, k1⟩, ⟨a2, n2, k2⟩, ⟨a3, n3, k3⟩, ⟨a4, n4, k4⟩⟩ d _ H.out.2.1 (fun n hn => by have := hS.nl n hn; omega) (small_sizes t d hS))
  have HLN : Hid (d.raw.length = n4) := h.h4.len
  have hn4 : n4 ≤ 65540 := by have h1 := h.h4.len; have h2 := hS.r; simp only at h1; omega
  have HWR : Hid (wordsR t d = ⟨#[92, 35]⟩ :: xnw n4 :: (if d.raw = [] then [] else [lb (xhexs d.raw)])) := by
    show _ = _
    unfold wordsR xwords
    rw [if_pos hc, if_neg (by omega), if_pos hk, HLN.out]; rfl
  have HC : Hid (checkF t d = 0) := hc
  have KK : Hid (∀ W, Calls Tryz.prog 39 #[.int .u16 t] W fun e w' => e = .returned (.bool false) ∧ Hid (Below W.heap.size W w')) := fun W => by
    have := rknown_any t htt W
    rw [known_xkn, hk] at this
    exact this
  have KD : Hid (∀ W, Calls Tryz.prog 40 #[.int .u32 (n4 : Int)] W fun e w' => e = .returned (.string (xnw n4)) ∧ Hid (Below W.heap.size W w')) := fun W => rdec6_any n4 (by omega) W
  have KH : Hid (∀ W, Rd W a4 d.raw → Calls Tryz.prog 41 #[.slice a4 n4 k4] W fun e w' => e = .returned (.string (lb (xhexs d.raw))) ∧ Hid (Below W.heap.size W w')) := fun W hW => rhex_any a4 n4 k4 d.raw W hW HLN.out (by omega)
  have hwu : IntKind.u32.wrap (n4 : Int) = (n4 : Int) := by rw [IntKind.wrap_u32]; omega
  have z1 : (xnw n4).size ≤ 10 := by unfold xnw; rw [lb_size]; exact xdec_len10 n4 (by omega)
  have z2 : (lb (xhexs d.raw)).size ≤ 1000000 := by rw [lb_size, xhexs_len, HLN.out]; omega
  have q1 : ((t : Int) == 1) = false := by simp; omega
  have q2 : ((t : Int) == 28) = false := by simp; omega
  have q3 : ¬ (t : Int) = 1 := by omega
  have q4 : ¬ (t : Int) = 28 := by omega
  rw [hc] at KC
  clear hc h hS
  simp only at KC
  generalize xnw n4 = S at *
  generalize hX : lb (xhexs d.raw) = X at *
  go_enter Tryz.func12, Tryz.ntmps12
  go_wp2_with fail
  refine KC.out.mono ?_
  rintro e w2 ⟨rfl, H2⟩
  have HA : Hid (RwSt w w2 ⟨⟨a1, n1, k1⟩, ⟨a2, n2, k2⟩, ⟨a3, n3, k3⟩, ⟨a4, n4, k4⟩⟩ d) := H.out.go H2.out
  clear H H2 KC
  go_wp2_with fail
  refine (KK.out _).mono ?_
  rintro e w3 ⟨rfl, H3⟩
  have HA3 : Hid (RwSt w w3 ⟨⟨a1, n1, k1⟩, ⟨a2, n2, k2⟩, ⟨a3, n3, k3⟩, ⟨a4, n4, k4⟩⟩ d) := HA.out.go H3.out
  have d3 := HA3.out.1.2.2.2.1
  simp only at d3
  clear HA H3 KK
  go_wp2_with fail
  refine (KD.out _).mono ?_
  rintro e w4 ⟨rfl, H4⟩
  have HA4 : Hid (RwSt w (w4.alloc (.cells #[.string ⟨#[92, 35]⟩, .string S] 9)) ⟨⟨a1, n1, k1⟩, ⟨a2, n2, k2⟩, ⟨a3, n3, k3⟩, ⟨a4, n4, k4⟩⟩ d) := (HA3.out.go H4.out).go (new_below _ _)
  have HT4 : Hid (TL w4.heap.size (w4.alloc (.cells #[.string ⟨#[92, 35]⟩, .string S] 9)) (.slice (some ⟨w4.heap.size, 0, none⟩) 2 2) [⟨#[92, 35]⟩, S]) := TL.new w4 [⟨#[92, 35]⟩, S] 2 rfl (by omega) (by intro s hs; simp at hs; rcases hs with rfl | rfl <;> first | decide | omega)
  have hw4 : w.heap.size < (w4.alloc (.cells #[.string ⟨#[92, 35]⟩, .string S] 9)).heap.size := HA4.out.1.2.2.2.2
  have d4 := HA4.out.1.2.2.2.1
  simp only at d4
  clear HA3 H4 KD d3
  by_cases h0 : n4 = 0
  · have hr0 : d.raw = [] := List.length_eq_zero_iff.1 (by rw [HLN.out]; exact h0)
    have HW2 : Hid (wordsR t d = [⟨#[92, 35]⟩, S]) := by show _ = _; rw [HWR.out, if_pos hr0]
    have h0' : ¬ (0 : Int) < (n4 : Int) := by omega
    clear HWR hr0 hX
    go_wp2_with fail
    refine bodyPost_ret (v := .tuple #[.slice (some ⟨w4.heap.size, 0, none⟩) 2 2, .int .i64 0]) (by simp [results, Tryz.results12, go_sem]) rfl ⟨.slice (some ⟨w4.heap.size, 0, none⟩) 2 2, by rw [HC.out], ?_, HA4.out.2.2⟩
    rw [HW2.out]
    exact HT4.out.mono (by simp at hw4; omega)
  · have hr0 : ¬ d.raw = [] := fun e => h0 (by rw [← HLN.out, e]; rfl)
    have HW2 : Hid (wordsR t d = [⟨#[92, 35]⟩, S] ++ [X]) := by show _ = _; rw [HWR.out, if_neg hr0]; rfl
    have h0' : (0 : Int) < (n4 : Int) := by omega
    clear HWR hr0 hX
    go_wp2_with fail
    refine (KH.out _ HA4.out.2.1.h4.rd).mono ?_
    rintro e w5 ⟨rfl, H5⟩
    have HA5 : Hid (RwSt w (w5.alloc (.cells #[.string X] 9)) ⟨⟨a1, n1, k1⟩, ⟨a2, n2, k2⟩, ⟨a3, n3, k3⟩, ⟨a4, n4, k4⟩⟩ d) := (HA4.out.go H5.out).go (new_below _ _)
    have HT5 : Hid (TL w4.heap.size (w5.alloc (.cells #[.string X] 9)) (.slice (some ⟨w4.heap.size, 0, none⟩) 2 2) [⟨#[92, 35]⟩, S] ∧ w4.heap.size ≤ (w5.alloc (.cells #[.string X] 9)).heap.size) := by
      have h1 := H5.out.size
      have h2 := (new_below w5 (.cells #[.string X] 9)).size
      have h3 := (new_below w4 (.cells #[.string ⟨#[92, 35]⟩, .string S] 9)).size
      exact ⟨(HT4.out.below H5.out).below (new_below _ _), by omega⟩
    have hlow : w.heap.size ≤ w4.heap.size := by simp at hw4; omega
    clear HA4 HT4 KH d4 H5
    go_wp2_with (at_builtin; refine wl_tl _ rfl _ _ rfl w4.heap.size _ [⟨#[92, 35]⟩, S] rfl HT5.out.1 (some ⟨w5.heap.size, 0, none⟩) 1 1 [X] rfl (one_rdT w5 X) rfl (by intro s hs; simp at hs; subst hs; exact z2) (by simp) HT5.out.2 ?_; intro v' w' hT hB)
    go_wp2_with fail
    refine bodyPost_ret (v := .tuple #[v', .int .i64 0]) (by simp [results, Tryz.results12, go_sem]) rfl ⟨v', by rw [HC.out], ?_, ?_⟩
    · rw [HW2.out]; exact hT.out.mono hlow
    · exact HA5.out.2.2.trans (hB.out.mono hlow)
end Go.Proofs.YtfkfjodfjgjbkaaGreatDoor
namespace Go.Proofs.YtfkfjodfjgjbkaaGreatDoor
open Go.ChangeShapes Go.WideShapes Go.ChangeAt Go.RowKit
set_option linter.unusedVariables false
set_option linter.unusedSimpArgs false
theorem map_snoc {α β : Type} (f : α → β) (l : List α) (k : Nat) (h : k < l.length) : (l.map f).take (k + 1) = (l.map f).take k ++ [f l[k]] := by
  rw [List.take_succ_eq_append_getElem (by rw [List.length_map]; exact h), List.getElem_map]
theorem xtw_len (t : Nat) (l : List ByteArray) : (xtw t l).length = l.length := by
  unfold xtw
  split
  · cases l <;> simp
  · simp
def rel1 (t k : Nat) (s : ByteArray) : ByteArray := if t = 257 ∧ k = 0 then s else xqw s
theorem xtw_snoc (t : Nat) (l : List ByteArray) (k : Nat) (h : k < l.length) : (xtw t l).take (k + 1) = (xtw t l).take k ++ [rel1 t k l[k]] := by
  rw [List.take_succ_eq_append_getElem (by rw [xtw_len]; exact h)]
  congr 2
  unfold rel1
  by_cases ht : t = 257
  · subst ht
    cases l with
    | nil => simp at h
    | cons a r =>
      cases k with
      | zero => simp [xtw]
      | succ k => simp [xtw]
  · simp [xtw, ht]
theorem rxqw_size (s : ByteArray) : (xqw s).size ≤ 4 * s.size + 2 := by
  unfold xqw xquote
  rw [lb_size, List.length_cons, List.length_append]
  have := xq_len (nums s)
  rw [nums_len] at this
  simp; omega
theorem rel1_size (t k : Nat) (s : ByteArray) (h : s.size ≤ 300) : (rel1 t k s).size ≤ 1000000 := by
  have := rxqw_size s
  unfold rel1
  split <;> omega
theorem soa_ts (d : Dat) (hc : checkF 6 d = 0) : d.ts = [] := by
  obtain ⟨hm, hf, hn, hz⟩ := check_parts hc
  unfold fitsB at hf
  simp only [Bool.and_eq_true, decide_eq_true_eq, Bool.or_eq_true, List.all_eq_true] at hf
  obtain ⟨⟨⟨⟨⟨⟨⟨f1, f2⟩, f3⟩, f4⟩, f5⟩, f6⟩, f7⟩, f8⟩ := hf
  have e : (shp 6).nt = 0 := rfl
  rw [e] at f3 f4
  cases hts : d.ts with
  | nil => rfl
  | cons a r =>
    exfalso
    rw [hts, List.length_cons] at f3
    omega
def rwNL (d : Dat) : List ByteArray := d.ns.map (fun n => (ntext n).1)
def rwUL (d : Dat) : List ByteArray := d.us.map xnw
theorem rwNL_len (d : Dat) : (rwNL d).length = d.ns.length := by simp [rwNL]
theorem rwUL_len (d : Dat) : (rwUL d).length = d.us.length := by simp [rwUL]
theorem rwNL_sz (d : Dat) (hn : ∀ n ∈ d.ns, nck n = 0) : ∀ s ∈ rwNL d, s.size ≤ 1000000 := by
  intro s hs
  obtain ⟨n, hm, rfl⟩ := List.mem_map.1 hs
  have := ntext_size (hn n hm); omega
theorem rwUL_sz (d : Dat) (hn : ∀ n ∈ d.us, n ≤ 4294967295) : ∀ s ∈ rwUL d, s.size ≤ 1000000 := by
  intro s hs
  obtain ⟨n, hm, rfl⟩ := List.mem_map.1 hs
  have := xdec_len10 n (by have := hn n hm; omega)
  unfold xnw; rw [lb_size]; omega
theorem rw_known (t : Nat) (d : Dat) (hc : checkF t d = 0) (ht : t ≠ 1 ∧ t ≠ 28) (hk : xkn t = true) (h6 : t ≠ 6) : wordsR t d = rwUL d ++ rwNL d ++ xtw t d.ts := by
  unfold wordsR xwords
  rw [if_pos hc, if_neg (by omega), if_neg (by rw [hk]; simp), if_neg h6]; rfl
theorem rw_soa (d : Dat) (hc : checkF 6 d = 0) : wordsR 6 d = rwNL d ++ rwUL d := by
  unfold wordsR xwords
  rw [if_pos hc, if_neg (by omega), if_neg (by decide), if_pos rfl]; rfl
set_option maxRecDepth 100000 in
set_option maxHeartbeats 8000000 in
theorem rwords_known (t : Nat) (ht : t ≠ 1 ∧ t ≠ 28) (htt : t < 65536) (hk : xkn t = true) (x : DA) (d : Dat) (w : World) (h : DRd w x d) (hS : Small d) (hc : checkF t d = 0) :
    Calls Tryz.prog 12 #[.int .u16 t, .agg #[.slice x.p1.a x.p1.n x.p1.c, .slice x.p2.a x.p2.n x.p2.c, .slice x.p3.a x.p3.n x.p3.c, .slice x.p4.a x.p4.n x.p4.c]] w (RwPost t d w) := by
  obtain ⟨⟨a1, n1, k1⟩, ⟨a2, n2, k2⟩, ⟨a3, n3, k3⟩, ⟨a4, n4, k4⟩⟩ := x
  have H : Hid (RwSt w (w.alloc (.cells #[.slice a1 n1 k1, .slice a2 n2 k2, .slice a3 n3 k3, .slice a4 n4 k4] 29)) ⟨⟨a1, n1, k1⟩, ⟨a2, n2, k2⟩, ⟨a3, n3, k3⟩, ⟨a4, n4, k4⟩⟩ d) := ⟨DBox.new w ⟨⟨a1, n1, k1⟩, ⟨a2, n2, k2⟩, ⟨a3, n3, k3⟩, ⟨a4, n4, k4⟩⟩, h.below (new_below _ _), new_below _ _⟩
  have KC := Lib.hid (rcheck_wide t ⟨⟨a1, n1, k1⟩, ⟨a2, n2, k2⟩, ⟨a3, n3, k3⟩, ⟨a4, n4, k4⟩⟩ d _ H.out.2.1 (fun n hn => by have := hS.nl n hn; omega) (small_sizes t d hS))
  have HC : Hid (checkF t d = 0) := hc
  have HP : Hid (∀ n ∈ d.ns, nck n = 0) := (check_parts hc).2.2.1
  have HUB : Hid (∀ n ∈ d.us, n ≤ 4294967295) := h.h2.bd
  have HSM : Hid (Small d) := hS
  have HLN : Hid (d.ns.length = n1 ∧ d.us.length = n2 ∧ d.ts.length = n3) := ⟨h.h1.len, h.h2.len, h.h3.len⟩
  have hn1 : n1 ≤ 6 := by have := hS.n; have := HLN.out.1; omega
  have hn2 : n2 ≤ 12 := by have := hS.u; have := HLN.out.2.1; omega
  have hn3 : n3 ≤ 300 := by have := hS.t; have := HLN.out.2.2; omega
  have HW6 : Hid (t ≠ 6 → wordsR t d = rwUL d ++ rwNL d ++ xtw t d.ts) := fun h6 => rw_known t d hc ht hk h6
  have HS6 : Hid (t = 6 → wordsR t d = rwNL d ++ rwUL d ∧ d.ts = []) := fun h6 => by subst h6; exact ⟨rw_soa d hc, soa_ts d hc⟩
  have KK : Hid (∀ W, Calls Tryz.prog 39 #[.int .u16 t] W fun e w' => e = .returned (.bool true) ∧ Hid (Below W.heap.size W w')) := fun W => by
    have := rknown_any t htt W
    rw [known_xkn, hk] at this
    exact this
  have q1 : ((t : Int) == 1) = false := by simp; omega
  have q2 : ((t : Int) == 28) = false := by simp; omega
  rw [hc] at KC
  clear hc h hS ht hk
  simp only at KC
  go_enter Tryz.func12, Tryz.ntmps12
  go_wp2_with fail
  refine KC.out.mono ?_
  rintro e w2 ⟨rfl, H2⟩
  have HA : Hid (RwSt w w2 ⟨⟨a1, n1, k1⟩, ⟨a2, n2, k2⟩, ⟨a3, n3, k3⟩, ⟨a4, n4, k4⟩⟩ d) := H.out.go H2.out
  clear H H2 KC
  go_wp2_with fail
  refine (KK.out _).mono ?_
  rintro e w3 ⟨rfl, H3⟩
  have HA3 : Hid (RwSt w w3 ⟨⟨a1, n1, k1⟩, ⟨a2, n2, k2⟩, ⟨a3, n3, k3⟩, ⟨a4, n4, k4⟩⟩ d) := HA.out.go H3.out
  clear HA H3 KK
  go_wp2_with fail
  go_loopw [10, 13] (fun v y wr => ∃ k : Nat, k ≤ n1 ∧ y = .int .i64 (k : Int) ∧ Hid (TL w3.heap.size wr v ((rwNL d).take k)) ∧ Hid (Below w3.heap.size w3 wr)) (fun _ y _ => n1 - (intOf y).toNat)
  case atStart => exact ⟨0, Nat.zero_le _, rfl, TL.nil _ _, Below.refl _ _⟩
  case round =>
    obtain ⟨k, hk, rfl, HT, HB⟩ := hrel
    have HA4 : Hid (RwSt w wr ⟨⟨a1, n1, k1⟩, ⟨a2, n2, k2⟩, ⟨a3, n3, k3⟩, ⟨a4, n4, k4⟩⟩ d) := HA3.out.go HB.out
    have d0 := HA4.out.1.1
    simp only at d0
    by_cases hlt : k < n1
    · have hlt' : (k : Int) < (n1 : Int) := by omega
      have hkl : k < d.ns.length := by rw [HLN.out.1]; exact hlt
      obtain ⟨b, o, hbo, hb, z, hz, hzr⟩ := HA4.out.2.1.h1.at k hkl
      simp only at hbo
      subst hbo
      have hck := HP.out _ (List.getElem_mem hkl)
      have HTS : Hid ((rwNL d).take (k + 1) = (rwNL d).take k ++ [(ntext d.ns[k]).1]) := map_snoc _ d.ns k hkl
      have HLK : Hid (((rwNL d).take k).length = k) := by show _ = _; rw [List.length_take, rwNL_len]; omega
      have KN : Hid (Calls Tryz.prog 42 #[.slice z.a z.n z.c] wr fun e w' => e = .returned (.tuple #[.string (ntext d.ns[k]).1, .int .i64 (ntext d.ns[k]).2]) ∧ Hid (Below wr.heap.size wr w')) := refntext_any z.a z.n z.c d.ns[k] wr ⟨hzr.rd, hzr.len, by have := (nck_small hck).1; omega⟩
      have hsz : (ntext d.ns[k]).1.size ≤ 1000000 := by have := ntext_size hck; omega
      generalize (ntext d.ns[k]).1 = S at *
      generalize (ntext d.ns[k]).2 = E at *
      obtain ⟨za, zn, zc⟩ := z
      simp only at hz KN
      have hle : w3.heap.size ≤ wr.heap.size := HB.out.size
      clear hzr hck
      go_wp2_with fail
      refine KN.out.mono ?_
      rintro e w4 ⟨rfl, H4⟩
      have HT4 : Hid (TL w3.heap.size (w4.alloc (.cells #[.string S] 9)) u10 ((rwNL d).take k)) := (HT.out.below H4.out).below (new_below _ _)
      have HB4 : Hid (Below w3.heap.size w3 (w4.alloc (.cells #[.string S] 9)) ∧ w3.heap.size ≤ (w4.alloc (.cells #[.string S] 9)).heap.size) := by
        have hb := HB.out.trans (H4.out.mono hle)
        have hb2 := hb.trans ((new_below w4 (.cells #[.string S] 9)).mono hb.size)
        exact ⟨hb2, hb2.size⟩
      clear HT HB HA4 d0 H4 KN hz
      go_wp2_with (at_builtin; refine wl_tl _ rfl _ _ rfl w3.heap.size _ ((rwNL d).take k) rfl HT4.out (some ⟨w4.heap.size, 0, none⟩) 1 1 [S] rfl (one_rdT w4 S) rfl (by intro s hs; simp at hs; subst hs; exact hsz) (by rw [HLK.out]; omega) HB4.out.2 ?_; intro v' w' hT hB)
      refine ⟨⟨k + 1, by omega, by go_num, ?_, HB4.out.1.trans (hB.out.mono (Nat.le_refl _))⟩, by simp [intOf]; omega⟩
      rw [HTS.out]; exact hT.out
    · have hge : ¬ (k : Int) < (n1 : Int) := by omega
      have hkn : (rwNL d).take k = rwNL d := List.take_of_length_le (by rw [rwNL_len, HLN.out.1]; omega)
      rw [hkn] at HT
      obtain ⟨w4, hw4⟩ : ∃ z, z = wr := ⟨_, rfl⟩
      subst hw4
      obtain ⟨ao1, c1, rfl, hr1, -⟩ := HT.out.rd
      have HR1 : Hid (RdT w4 ao1 (rwNL d)) := hr1
      have hl1 : (rwNL d).length = n1 := by rw [rwNL_len]; exact HLN.out.1
      rw [hl1]
      have HB34 : Hid (Below w3.heap.size w3 w4) := HB
      clear HT HB hr1 hkn hk hlt
      go_wp2_with fail
      go_loopw [11, 16] (fun v y wr => ∃ k : Nat, k ≤ n2 ∧ y = .int .i64 (k : Int) ∧ Hid (TL w4.heap.size wr v ((rwUL d).take k)) ∧ Hid (Below w4.heap.size w4 wr)) (fun _ y _ => n2 - (intOf y).toNat)
      case atStart => exact ⟨0, Nat.zero_le _, rfl, TL.nil _ _, Below.refl _ _⟩
      case round =>
        obtain ⟨k, hk, rfl, HT, HB⟩ := hrel
        have HA5 : Hid (RwSt w wr ⟨⟨a1, n1, k1⟩, ⟨a2, n2, k2⟩, ⟨a3, n3, k3⟩, ⟨a4, n4, k4⟩⟩ d) := HA4.out.go HB.out
        have d1 := HA5.out.1.2.1
        simp only at d1
        by_cases hlt : k < n2
        · have hlt' : (k : Int) < (n2 : Int) := by omega
          have hkl : k < d.us.length := by rw [HLN.out.2.1]; exact hlt
          obtain ⟨b, o, hbo, hb, hz⟩ := HA5.out.2.1.h2.at k hkl
          simp only at hbo
          subst hbo
          have hub := HUB.out _ (List.getElem_mem hkl)
          have HTS : Hid ((rwUL d).take (k + 1) = (rwUL d).take k ++ [xnw d.us[k]]) := map_snoc _ d.us k hkl
          have HLK : Hid (((rwUL d).take k).length = k) := by show _ = _; rw [List.length_take, rwUL_len]; omega
          generalize d.us[k] = u at *
          have KN : Hid (∀ W, Calls Tryz.prog 40 #[.int .u32 (u : Int)] W fun e w' => e = .returned (.string (xnw u)) ∧ Hid (Below W.heap.size W w')) := fun W => rdec6_any u (by omega) W
          have hsz : (xnw u).size ≤ 1000000 := by have := xdec_len10 u (by omega); unfold xnw; rw [lb_size]; omega
          generalize xnw u = S at *
          have hle : w4.heap.size ≤ wr.heap.size := HB.out.size
          go_wp2_with fail
          refine (KN.out _).mono ?_
          rintro e w5 ⟨rfl, H5⟩
          have HT5 : Hid (TL w4.heap.size (w5.alloc (.cells #[.string S] 9)) u11 ((rwUL d).take k)) := (HT.out.below H5.out).below (new_below _ _)
          have HB5 : Hid (Below w4.heap.size w4 (w5.alloc (.cells #[.string S] 9)) ∧ w4.heap.size ≤ (w5.alloc (.cells #[.string S] 9)).heap.size) := by
            have hb := HB.out.trans (H5.out.mono hle)
            have hb2 := hb.trans ((new_below w5 (.cells #[.string S] 9)).mono hb.size)
            exact ⟨hb2, hb2.size⟩
          clear HT HB HA5 d1 H5 KN hz
          go_wp2_with (at_builtin; refine wl_tl _ rfl _ _ rfl w4.heap.size _ ((rwUL d).take k) rfl HT5.out (some ⟨w5.heap.size, 0, none⟩) 1 1 [S] rfl (one_rdT w5 S) rfl (by intro s hs; simp at hs; subst hs; exact hsz) (by rw [HLK.out]; omega) HB5.out.2 ?_; intro v' w' hT hB)
          refine ⟨⟨k + 1, by omega, by go_num, ?_, HB5.out.1.trans (hB.out.mono (Nat.le_refl _))⟩, by simp [intOf]; omega⟩
          rw [HTS.out]; exact hT.out
        · have hge : ¬ (k : Int) < (n2 : Int) := by omega
          have hkn : (rwUL d).take k = rwUL d := List.take_of_length_le (by rw [rwUL_len, HLN.out.2.1]; omega)
          rw [hkn] at HT
          obtain ⟨w5, hw5⟩ : ∃ z, z = wr := ⟨_, rfl⟩
          subst hw5
          obtain ⟨ao2, c2, rfl, hr2, -⟩ := HT.out.rd
          have hl2 : (rwUL d).length = n2 := by rw [rwUL_len]; exact HLN.out.2.1
          rw [hl2]
          have HR : Hid (∀ W, Below w5.heap.size w5 W → RdT W ao1 (rwNL d) ∧ RdT W ao2 (rwUL d)) := fun W hW => ⟨(HR1.out.below HB.out).below hW, hr2.below hW⟩
          have HSZ : Hid ((∀ s ∈ rwNL d, s.size ≤ 1000000) ∧ ∀ s ∈ rwUL d, s.size ≤ 1000000) := ⟨rwNL_sz d HP.out, rwUL_sz d HUB.out⟩
          have HL1 : Hid ((rwNL d).length = n1) := hl1
          have HL2 : Hid ((rwUL d).length = n2) := hl2
          clear HT hr2 hkn hk hlt HR1 HB HB34 HA4 HA3 d0 hl1 hl2 HP HUB
          by_cases h6 : t = 6
          · have hts := (HS6.out h6).2
            have hn0 : 0 = n3 := by have := HLN.out.2.2; rw [hts] at this; simpa using this
            have HW : Hid (wordsR t d = rwNL d ++ rwUL d) := (HS6.out h6).1
            have q6 : ((t : Int) == 6) = true := by simp; omega
            subst hn0
            clear hts HS6 HW6 h6 HSM HLN
            go_wp2_with (at_builtin; first
              | ((refine wl_tl _ rfl _ _ rfl w5.heap.size (.slice none 0 0) [] rfl (TL.nil _ _) ao1 n1 c1 (rwNL d) rfl (HR.out _ (Below.refl _ _)).1 HL1.out HSZ.out.1 (by simp; omega) (Nat.le_refl _) ?_); intro v1 y1 hT1 hB1)
              | ((refine wl_tl _ rfl _ _ rfl w5.heap.size v1 ([] ++ rwNL d) rfl hT1.out ao2 n2 c2 (rwUL d) rfl (HR.out _ hB1.out).2 HL2.out HSZ.out.2 (by simp [HL1.out]; omega) hB1.out.size ?_); intro v2 y2 hT2 hB2))
            have HT2 : Hid (TL w5.heap.size y2 v2 (rwNL d ++ rwUL d)) := by have := hT2.out; rw [List.nil_append] at this; exact this
            have HB2 : Hid (Below w5.heap.size w5 y2) := hB1.out.trans hB2.out
            have HA6 : Hid (RwSt w y2 ⟨⟨a1, n1, k1⟩, ⟨a2, n2, k2⟩, ⟨a3, 0, k3⟩, ⟨a4, n4, k4⟩⟩ d) := HA5.out.go HB2.out
            have d2 := HA6.out.1.2.2.1
            simp only at d2
            obtain ⟨ao, c, rfl, hr, -⟩ := HT2.out.rd
            have HLL : Hid ((rwNL d ++ rwUL d).length = n1 + n2) := by show _ = _; rw [List.length_append, HL1.out, HL2.out]
            have HRR : Hid (TL w5.heap.size y2 (.slice ao (n1 + n2) c) (rwNL d ++ rwUL d)) := by have := HT2.out; rw [HLL.out] at this; exact this
            rw [HLL.out]
            clear hT1 hB1 hT2 hB2 HT2 HR HSZ HL1 HL2 hr d1
            go_wp2_with fail
            go_loopw [12, 17] (fun v y wr => v = .slice ao (n1 + n2) c ∧ y = .int .i64 0 ∧ wr = y2) (fun _ _ _ => 0)
            case atStart => exact ⟨rfl, rfl, rfl⟩
            case round =>
              obtain ⟨rfl, rfl, hwr⟩ := hrel
              subst hwr
              go_wp2_with fail
              refine bodyPost_ret (v := .tuple #[.slice ao (n1 + n2) c, .int .i64 0]) (by simp [results, Tryz.results12, go_sem]) rfl ⟨.slice ao (n1 + n2) c, by rw [HC.out], ?_, HA6.out.2.2⟩
              rw [HW.out]; exact HRR.out.mono HA5.out.2.2.size
          · have HW : Hid (wordsR t d = rwUL d ++ rwNL d ++ xtw t d.ts) := HW6.out h6
            have q6 : ((t : Int) == 6) = false := by simp; omega
            clear HS6 HW6 h6
            go_wp2_with (at_builtin; first
              | (refine wl_tl _ rfl _ _ rfl w5.heap.size (.slice none 0 0) [] rfl (TL.nil _ _) ao2 n2 c2 (rwUL d) rfl (HR.out _ (Below.refl _ _)).2 HL2.out HSZ.out.2 (by simp; omega) (Nat.le_refl _) ?_; intro v1 y1 hT1 hB1)
              | (refine wl_tl _ rfl _ _ rfl w5.heap.size v1 ([] ++ rwUL d) rfl hT1.out ao1 n1 c1 (rwNL d) rfl (HR.out _ hB1.out).1 HL1.out HSZ.out.1 (by simp [HL2.out]; omega) hB1.out.size ?_; intro v2 y2 hT2 hB2))
            have HT2 : Hid (TL w5.heap.size y2 v2 (rwUL d ++ rwNL d)) := by have := hT2.out; rw [List.nil_append] at this; exact this
            have HB2 : Hid (Below w5.heap.size w5 y2) := hB1.out.trans hB2.out
            have HLL : Hid ((rwUL d ++ rwNL d).length = n2 + n1) := by show _ = _; rw [List.length_append, HL1.out, HL2.out]
            clear hT1 hB1 hT2 hB2 HR HSZ HL1 HL2 d1
            generalize rwUL d ++ rwNL d = BL at *
            go_wp2_with fail
            go_loopw [12, 17] (fun v y wr => ∃ k : Nat, k ≤ n3 ∧ y = .int .i64 (k : Int) ∧ Hid (TL w5.heap.size wr v (BL ++ (xtw t d.ts).take k)) ∧ Hid (Below w5.heap.size w5 wr)) (fun _ y _ => n3 - (intOf y).toNat)
            case atStart => exact ⟨0, Nat.zero_le _, rfl, by show TL _ _ _ _; rw [List.take_zero, List.append_nil]; exact HT2.out, HB2.out⟩
            case round =>
              obtain ⟨k, hk, rfl, HT, HB⟩ := hrel
              have HA6 : Hid (RwSt w wr ⟨⟨a1, n1, k1⟩, ⟨a2, n2, k2⟩, ⟨a3, n3, k3⟩, ⟨a4, n4, k4⟩⟩ d) := HA5.out.go HB.out
              have d2 := HA6.out.1.2.2.1
              simp only at d2
              by_cases hlt : k < n3
              · have hlt' : (k : Int) < (n3 : Int) := by omega
                have hkl : k < d.ts.length := by rw [HLN.out.2.2]; exact hlt
                obtain ⟨b, o, hbo, hb, hz⟩ := HA6.out.2.1.h3.rd.at k hkl
                simp only at hbo
                subst hbo
                have hsb := HSM.out.tl _ (List.getElem_mem hkl)
                have HTS : Hid ((xtw t d.ts).take (k + 1) = (xtw t d.ts).take k ++ [rel1 t k d.ts[k]]) := xtw_snoc t d.ts k hkl
                have HLK : Hid ((BL ++ (xtw t d.ts).take k).length = n2 + n1 + k) := by show _ = _; rw [List.length_append, HLL.out, List.length_take, xtw_len]; omega
                have hsz := rel1_size t k d.ts[k] hsb
                generalize d.ts[k] = s at *
                have KQ : Hid (∀ W, Calls Tryz.prog 19 #[.string s] W fun e w' => e = .returned (.string (xqw s)) ∧ Hid (Below W.heap.size W w')) := fun W => rquote_any s W (by omega)
                have hle : w5.heap.size ≤ wr.heap.size := HB.out.size
                by_cases h257 : t = 257 ∧ k = 0
                · have e : rel1 t k s = s := by unfold rel1; rw [if_pos h257]
                  rw [e] at HTS hsz
                  have hz0 : wr.cell? ⟨b, o, none⟩ = some (.string s) := by have := hz; rw [h257.2] at this; exact this
                  have q7 : ((t : Int) == 257) = true := by simp; omega
                  have q8 : ((k : Int) == 0) = true := by simp; omega
                  have hp3 : (0 : Int) < (n3 : Int) := by omega
                  have HT7 : Hid (TL w5.heap.size (wr.alloc (.cells #[.string s] 9)) u12 (BL ++ (xtw t d.ts).take k)) := HT.out.below (new_below _ _)
                  have HB7 : Hid (Below w5.heap.size w5 (wr.alloc (.cells #[.string s] 9)) ∧ w5.heap.size ≤ (wr.alloc (.cells #[.string s] 9)).heap.size) := by
                    have hb2 := HB.out.trans ((new_below wr (.cells #[.string s] 9)).mono hle)
                    exact ⟨hb2, hb2.size⟩
                  clear HT HB HA6 KQ h257 hz e
                  go_wp2_with (at_builtin; refine wl_tl _ rfl _ _ rfl w5.heap.size _ (BL ++ (xtw t d.ts).take k) rfl HT7.out (some ⟨wr.heap.size, 0, none⟩) 1 1 [s] rfl (one_rdT wr s) rfl (by intro s hs; simp at hs; subst hs; exact hsz) (by rw [HLK.out]; omega) HB7.out.2 ?_; intro v' w' hT hB)
                  refine ⟨⟨k + 1, by omega, by go_num, ?_, HB7.out.1.trans (hB.out.mono (Nat.le_refl _))⟩, by simp [intOf]; omega⟩
                  rw [HTS.out, ← List.append_assoc]; exact hT.out
                · have e : rel1 t k s = xqw s := by unfold rel1; rw [if_neg h257]
                  rw [e] at HTS hsz
                  generalize xqw s = S at *
                  have hcase : ((t : Int) == 257) = false ∨ (((t : Int) == 257) = true ∧ ((k : Int) == 0) = false) := by
                    by_cases h1 : t = 257
                    · exact .inr ⟨by simp; omega, by simp; omega⟩
                    · exact .inl (by simp; omega)
                  clear h257 e
                  rcases hcase with q7 | ⟨q7, q8⟩
                  all_goals
                    go_wp2_with fail
                    refine (KQ.out _).mono ?_
                    rintro e w7 ⟨rfl, H7⟩
                    have HT7 : Hid (TL w5.heap.size (w7.alloc (.cells #[.string S] 9)) u12 (BL ++ (xtw t d.ts).take k)) := (HT.out.below H7.out).below (new_below _ _)
                    have HB7 : Hid (Below w5.heap.size w5 (w7.alloc (.cells #[.string S] 9)) ∧ w5.heap.size ≤ (w7.alloc (.cells #[.string S] 9)).heap.size) := by
                      have hb := HB.out.trans (H7.out.mono hle)
                      have hb2 := hb.trans ((new_below w7 (.cells #[.string S] 9)).mono hb.size)
                      exact ⟨hb2, hb2.size⟩
                    clear HT HB HA6 KQ d2 hz H7
                    go_wp2_with (at_builtin; refine wl_tl _ rfl _ _ rfl w5.heap.size _ (BL ++ (xtw t d.ts).take k) rfl HT7.out (some ⟨w7.heap.size, 0, none⟩) 1 1 [S] rfl (one_rdT w7 S) rfl (by intro s hs; simp at hs; subst hs; exact hsz) (by rw [HLK.out]; omega) HB7.out.2 ?_; intro v' w' hT hB)
                    refine ⟨⟨k + 1, by omega, by go_num, ?_, HB7.out.1.trans (hB.out.mono (Nat.le_refl _))⟩, by simp [intOf]; omega⟩
                    rw [HTS.out, ← List.append_assoc]; exact hT.out
              · have hge : ¬ (k : Int) < (n3 : Int) := by omega
                have hkn : (xtw t d.ts).take k = xtw t d.ts := List.take_of_length_le (by rw [xtw_len, HLN.out.2.2]; omega)
                rw [hkn] at HT
                obtain ⟨ao, c, rfl, hr, -⟩ := HT.out.rd
                have HLF : Hid ((BL ++ xtw t d.ts).length = n2 + n1 + n3) := by show _ = _; rw [List.length_append, HLL.out, xtw_len, HLN.out.2.2]
                have HRR : Hid (TL w5.heap.size wr (.slice ao (n2 + n1 + n3) c) (BL ++ xtw t d.ts)) := by have := HT.out; rw [HLF.out] at this; exact this
                rw [HLF.out]
                clear hr hkn
                go_wp2_with fail
                refine bodyPost_ret (v := .tuple #[.slice ao (n2 + n1 + n3) c, .int .i64 0]) (by simp [results, Tryz.results12, go_sem]) rfl ⟨.slice ao (n2 + n1 + n3) c, by rw [HC.out], ?_, HA6.out.2.2⟩
                rw [HW.out]; exact HRR.out.mono HA5.out.2.2.size
end Go.Proofs.YtfkfjodfjgjbkaaGreatDoor
namespace Go.Proofs.YtfkfjodfjgjbkaaGreatDoor
open Go.ChangeShapes Go.WideShapes Go.ChangeAt Go.RowKit
set_option linter.unusedVariables false
set_option linter.unusedSimpArgs false
theorem xwords_len (t : Nat) (d : Dat) (hs : Small d) : (xwords t d).length ≤ 1000 := by
  unfold xwords
  have h1 := hs.n
  have h2 := hs.u
  have h3 := hs.t
  split
  · simp
  · split
    · simp only [List.length_cons]; split <;> simp
    · split
      · simp only [List.length_append, List.length_map]; omega
      · simp only [List.length_append, List.length_map]
        have : (xtw t d.ts).length ≤ 300 := by
          unfold xtw
          split
          · rcases hts : d.ts with _ | ⟨a, r⟩
            · simp
            · rw [hts] at h3; simpa using h3
          · simpa using h3
        omega
end Go.Proofs.YtfkfjodfjgjbkaaGreatDoor
namespace Go.Proofs.YtfkfjodfjgjbkaaGreatDoor
open Go.ChangeShapes Go.WideShapes Go.ChangeAt Go.RowKit
set_option linter.unusedVariables false
set_option linter.unusedSimpArgs false
theorem rwords_any (t : Nat) (htt : t < 65536) (x : DA) (d : Dat) (w : World) (h : DRd w x d) (hS : Small d) :
    Calls Tryz.prog 12 #[.int .u16 t, .agg #[.slice x.p1.a x.p1.n x.p1.c, .slice x.p2.a x.p2.n x.p2.c, .slice x.p3.a x.p3.n x.p3.c, .slice x.p4.a x.p4.n x.p4.c]] w (RwPost t d w) := by
  by_cases hc : checkF t d = 0
  · by_cases ht : t = 1 ∨ t = 28
    · exact rwords_addr t ht x d w h hS hc
    · have ht' : t ≠ 1 ∧ t ≠ 28 := by omega
      cases hk : xkn t with
      | false => exact rwords_raw t ht' htt hk x d w h hS hc
      | true => exact rwords_known t ht' htt hk x d w h hS hc
  · exact rwords_bad t x d w h hS hc
theorem TL.sz {B : Nat} {w : World} {v : Value} {ss : List ByteArray} (h : TL B w v ss) : ∀ s ∈ ss, s.size ≤ 1000000 := by
  obtain ⟨ys, h1, h2⟩ := h
  intro s hs
  rw [← h2] at hs
  exact h1.2 s (List.mem_of_mem_take hs)
theorem xj_snoc (l : List ByteArray) (k : Nat) (h : k < l.length) : xjoin 32 ((l.take (k + 1)).map nums) = if k = 0 then nums l[k] else xjoin 32 ((l.take k).map nums) ++ 32 :: nums l[k] := by
  rw [List.take_succ_eq_append_getElem h, List.map_append]
  split
  · next h0 => subst h0; simp [xjoin]
  · next h0 =>
    rw [List.map_cons, List.map_nil, xjoin_snoc]
    intro e
    have := congrArg List.length e
    rw [List.length_map, List.length_take, List.length_nil] at this
    omega
theorem wordsR_len (t : Nat) (d : Dat) (hS : Small d) : (wordsR t d).length ≤ 1000 := by
  unfold wordsR
  split
  · exact xwords_len t d hS
  · simp
set_option maxRecDepth 100000 in
set_option maxHeartbeats 4000000 in
theorem rtext14_any (t : Nat) (htt : t < 65536) (x : DA) (d : Dat) (w : World) (h : DRd w x d) (hS : Small d) :
    Calls Tryz.prog 14 #[.int .u16 t, .agg #[.slice x.p1.a x.p1.n x.p1.c, .slice x.p2.a x.p2.n x.p2.c, .slice x.p3.a x.p3.n x.p3.c, .slice x.p4.a x.p4.n x.p4.c]] w fun e w' => e = .returned (.tuple #[.string (textR t d), .int .i64 (checkF t d)]) ∧ Hid (Below w.heap.size w w') := by
  obtain ⟨⟨a1, n1, k1⟩, ⟨a2, n2, k2⟩, ⟨a3, n3, k3⟩, ⟨a4, n4, k4⟩⟩ := x
  have HB0 : Hid (Below w.heap.size w (w.alloc (.cells #[.slice a1 n1 k1, .slice a2 n2 k2, .slice a3 n3 k3, .slice a4 n4 k4] 29))) := new_below _ _
  have KW := Lib.hid (rwords_any t htt ⟨⟨a1, n1, k1⟩, ⟨a2, n2, k2⟩, ⟨a3, n3, k3⟩, ⟨a4, n4, k4⟩⟩ d _ (h.below HB0.out) hS)
  have hN := wordsR_len t d hS
  have HTX : Hid (textR t d = lb (xjoin 32 ((wordsR t d).map nums))) := (show _ = _ from rfl)
  clear h hS
  simp only at KW
  go_enter Tryz.func14, Tryz.ntmps14
  go_wp2_with fail
  refine KW.out.mono ?_
  rintro e w2 ⟨v, rfl, H2⟩
  have HT := Lib.hid H2.out.1
  have HB2 : Hid (Below w.heap.size w w2) := HB0.out.trans (H2.out.2.mono HB0.out.size)
  obtain ⟨C, hC⟩ : ∃ C, checkF t d = C := ⟨_, rfl⟩
  have HCC : Hid (checkF t d = C) := hC
  rw [hC]
  clear hC
  obtain ⟨L, hL⟩ : ∃ L, wordsR t d = L := ⟨_, rfl⟩
  rw [hL] at HT HTX hN
  clear hL H2 KW HB0
  obtain ⟨ao, c, rfl, hr, -⟩ := HT.out.rd
  have HSZ : Hid (∀ s ∈ L, s.size ≤ 1000000) := HT.out.sz
  have HR : Hid (RdT w2 ao L) := hr
  obtain ⟨N, hN2⟩ : ∃ N, L.length = N := ⟨_, rfl⟩
  have HL : Hid (L.length = N) := hN2
  rw [hN2] at hN ⊢
  clear hr HT hN2
  go_wp2_with fail
  go_loopw [8, 9] (fun v y wr => ∃ k : Nat, k ≤ N ∧ y = .int .i64 (k : Int) ∧ ∃ s, v = .string s ∧ s.size ≤ 1000001 * k ∧ Hid (s = lb (xjoin 32 ((L.take k).map nums))) ∧ wr = w2) (fun _ y _ => N - (intOf y).toNat)
  case atStart => exact ⟨0, Nat.zero_le _, rfl, _, rfl, Nat.le_refl _, rfl, rfl⟩
  case round =>
    obtain ⟨k, hk, rfl, s, rfl, hss, HS, hwr⟩ := hrel
    subst hwr
    by_cases hlt : k < N
    · have hlt' : (k : Int) < (N : Int) := by omega
      have hkl : k < L.length := by rw [HL.out]; exact hlt
      obtain ⟨b, o, rfl, hb, hc⟩ := HR.out.at k hkl
      have HTS : Hid (xjoin 32 ((L.take (k + 1)).map nums) = if k = 0 then nums L[k] else xjoin 32 ((L.take k).map nums) ++ 32 :: nums L[k]) := xj_snoc L k hkl
      have hz := HSZ.out _ (List.getElem_mem hkl)
      generalize L[k] = q at *
      by_cases h0 : k = 0
      · subst h0
        have hs0 : s.size = 0 := by omega
        simp only [Nat.add_zero] at hc
        have HE : Hid (s ++ q = lb (xjoin 32 ((L.take (0 + 1)).map nums))) := by
          show _ = _
          rw [HTS.out, if_pos rfl, HS.out, List.take_zero, lb_nums]
          apply ByteArray.ext
          simp [lb, txt, xjoin]
        go_wp2_with fail
        refine ⟨⟨0 + 1, by omega, by go_num, _, rfl, ?_, HE.out, by first | rfl | trivial⟩, by simp [intOf]; omega⟩
        rw [ByteArray.size_append]; omega
      · have h0' : (0 : Int) < (k : Int) := by omega
        have HE : Hid (s ++ ⟨#[32]⟩ ++ q = lb (xjoin 32 ((L.take (k + 1)).map nums))) := by
          show _ = _
          rw [HTS.out, if_neg h0, HS.out, lb_app, show (32 :: nums q) = [32] ++ nums q from rfl, lb_app, lb_nums, ByteArray.append_assoc]; rfl
        have hz5 : (⟨#[32]⟩ : ByteArray).size = 1 := rfl
        have hz4 : (s ++ ⟨#[32]⟩ : ByteArray).size = s.size + 1 := by rw [ByteArray.size_append]; rfl
        have hz6 : (s ++ ⟨#[32]⟩ ++ q : ByteArray).size = s.size + 1 + q.size := by rw [ByteArray.size_append, hz4]
        go_wp2_with fail
        exact ⟨⟨k + 1, by omega, by go_num, _, rfl, by rw [hz6]; omega, HE.out, by first | rfl | trivial⟩, by simp [intOf]; omega⟩
    · have hge : ¬ (k : Int) < (N : Int) := by omega
      have HE : Hid (textR t d = s) := by show _ = _; rw [HTX.out, HS.out, List.take_of_length_le (by rw [HL.out]; omega)]
      go_wp2_with fail
      exact bodyPost_ret (v := .tuple #[.string s, .int .i64 C]) (by simp [results, Tryz.results14, go_sem]) rfl ⟨by rw [HE.out, HCC.out], HB2⟩
end Go.Proofs.YtfkfjodfjgjbkaaGreatDoor
namespace Go.Proofs.YtfkfjodfjgjbkaaGreatDoor
open Go.ChangeShapes Go.WideShapes Go.ChangeAt Go.RowKit
set_option linter.unusedVariables false
set_option linter.unusedSimpArgs false
theorem al_below {w W : World} {B : Nat} {o : Obj} (h : Below B w W) (hB : B ≤ w.heap.size) : Below B w (W.alloc o) := h.alloc (Nat.le_trans hB h.size) _
/-- Three lists copied, and a box for them. -/
structure CpS (W1 W : World) (D : Nat) (tu tt tb : Sl) (d : Dat) : Prop where
  u : UOwn W1.heap.size W tu d.us
  t : Own1 W1.heap.size W tt d.ts
  b : BOwn W1.heap.size W tb d.raw
  blk : DBlk W D ⟨⟨none, 0, 0⟩, tu, tt, tb⟩
  bel : Below W1.heap.size W1 W
  low : W1.heap.size ≤ D
theorem BOwn.offTy {B : Nat} {w w' : World} {s : Sl} {zs : List Int} (h : BOwn B w s zs) (hg : ∃ o, w.grownBy w' o ∧ ∀ j, o = some j → B ≤ j ∧ ∃ zs, BlkV w j 45 zs) : BOwn B w' s zs := by
  obtain ⟨o, h1, h2⟩ := hg
  obtain ⟨ys, h3, h4⟩ := h
  refine ⟨ys, ?_, h4⟩
  rcases h3 with h3 | ⟨g, e1, e2, e3, e4⟩
  · exact .inl h3
  · refine .inr ⟨g, e1, e2, e3.same (h1.block g e3.lt (fun e => ?_)), e4⟩
    obtain ⟨_, zs', hz'⟩ := h2 g e.symm
    have hh := e3.1
    have hh' : w.heap[g]? = some (.cells zs'.toArray 45 (0, 0)) := hz'
    rw [hh] at hh'
    injection hh' with hh'
    injection hh' with _ hh'
    exact absurd hh' (by decide)
/-- Copied, with some of the names. -/
structure CpN (W1 W : World) (D : Nat) (x : DA) (d : Dat) : Prop where
  own : DOwn W1.heap.size W x d
  blk : DBlk W D x
  bel : Below W1.heap.size W1 W
  low : W1.heap.size ≤ D
theorem CpS.start {W1 W : World} {D : Nat} {tu tt tb : Sl} {d : Dat} (h : CpS W1 W D tu tt tb d) : CpN W1 W D ⟨⟨none, 0, 0⟩, tu, tt, tb⟩ ⟨d.ns.take 0, d.us, d.ts, d.raw⟩ := ⟨⟨OwnN.nil _ _, h.u, h.t, h.b⟩, h.blk, h.bel, h.low⟩
theorem CpN.go {W1 W W' : World} {D : Nat} {x : DA} {d : Dat} (h : CpN W1 W D x d) (hb : Below W.heap.size W W') : CpN W1 W' D x d := ⟨h.own.stays hb, h.blk.same (hb.block D h.blk.lt), h.bel.trans (hb.mono h.bel.size), h.low⟩
theorem DOwn.set0 {B : Nat} {W : World} {D : Nat} {y x : DA} {d : Dat} (h : DOwn B W x d) (hD : DBlk W D y) (v : Value) : DOwn B (W.setCell ⟨D, 0, none⟩ v) x d := by
  have e : ∀ j, j ≠ D → (W.setCell ⟨D, 0, none⟩ v).heap[j]? = W.heap[j]? := fun j hj => Below.heap_setCell _ _ _ j hj
  refine ⟨h.1.keepTy ?_, h.2.1.keepTy ?_, h.2.2.1.keep ?_, h.2.2.2.keepD hD e⟩
  · rintro j _ _ ⟨t, zs, hz, ht⟩
    exact e j (hD.ne hz (by rcases ht with rfl | rfl <;> decide))
  · rintro j _ _ ⟨zs, hz⟩
    exact e j (hD.ne hz (by decide))
  · rintro j _ _ ⟨zs, hz⟩
    exact e j (hD.ne hz (by decide))
theorem CpN.step {W1 W W' : World} {D : Nat} {x : DA} {d : Dat} {t' : Sl} {nss : List (List ByteArray)} (h : CpN W1 W D x d) (ho : OwnN W1.heap.size W' (.slice t'.a t'.n t'.c) nss) (hg : ∃ o, W.grownBy W' o ∧ ∀ j, o = some j → W1.heap.size ≤ j ∧ ∃ zs, BlkV W j 45 zs) :
    CpN W1 (W'.setCell ⟨D, 0, none⟩ (.slice t'.a t'.n t'.c)) D ⟨t', x.p2, x.p3, x.p4⟩ ⟨nss, d.us, d.ts, d.raw⟩ := by
  have hD := h.blk.offTy hg
  have hown : DOwn W1.heap.size W' ⟨t', x.p2, x.p3, x.p4⟩ ⟨nss, d.us, d.ts, d.raw⟩ := ⟨ho, h.own.2.1.offTy hg, h.own.2.2.1.offTy hg, h.own.2.2.2.offTy hg⟩
  refine ⟨hown.set0 hD _, hD.set0 t', ?_, h.low⟩
  obtain ⟨o, g1, g2⟩ := hg
  have hb : Below W1.heap.size W1 W' := ⟨g1.os.trans h.bel.os, g1.tape.trans h.bel.tape, g1.output.trans h.bel.output, Nat.le_trans h.bel.size g1.size, fun j hj => (g1.block j (Nat.lt_of_lt_of_le hj h.bel.size) (fun e => by have := (g2 j e.symm).1; omega)).trans (h.bel.block j hj)⟩
  exact hb.setCell (p := ⟨D, 0, none⟩) h.low _
end Go.Proofs.YtfkfjodfjgjbkaaGreatDoor
namespace Go.Proofs.YtfkfjodfjgjbkaaGreatDoor
open Go.ChangeShapes Go.WideShapes Go.ChangeAt Go.RowKit
set_option linter.unusedVariables false
set_option linter.unusedSimpArgs false
/-- A name of one's own. -/
def Owx1 (B : Nat) (w : World) (s : Sl) (nm : List ByteArray) : Prop := ∃ ys, OwnT B w (.slice s.a s.n s.c) nm.length ys 9223372036854775807 ∧ ys.take nm.length = nm
theorem Owx1.keep {B : Nat} {w w' : World} {s : Sl} {nm : List ByteArray} (h : Owx1 B w s nm) (hb : ∀ j, B ≤ j → j < w.heap.size → (∃ zs, BlkV w j 9 zs) → w'.heap[j]? = w.heap[j]?) : Owx1 B w' s nm := by
  obtain ⟨ys, ⟨h1, h2⟩, h3⟩ := h
  refine ⟨ys, ⟨?_, h2⟩, h3⟩
  rcases h1 with h1 | ⟨g, e, hg, hblk, hn⟩
  · exact .inl h1
  · exact .inr ⟨g, e, hg, hblk.same (hb g hg hblk.lt ⟨_, hblk⟩), hn⟩
theorem Owx1.rd {B : Nat} {w : World} {s : Sl} {nm : List ByteArray} (h : Owx1 B w s nm) : TRd w s nm := by
  obtain ⟨ys, h1, h3⟩ := h
  obtain ⟨ao, e, hnil⟩ := h1.shape
  have hle := h1.le
  obtain ⟨sa, sn, sc⟩ := s
  simp only at e h1
  injection e with e1 e2 e3
  subst e1 e2 e3
  have hrd := h1.rd nm.length
  rw [h3] at hrd
  refine ⟨hrd, rfl, ⟨hle.1, by have := hle.2; simp only [maxLen] at this; exact this⟩, hnil, fun x hx => ?_⟩
  have : x ∈ ys := by rw [← h3] at hx; exact List.mem_of_mem_take hx
  have := h1.2 x this
  omega
/-- A list of names of one's own, from the block B on. -/
def OwxN (B : Nat) (w : World) (v : Value) (nss : List (List ByteArray)) : Prop :=
  ∃ xs, OwnV B w 45 v nss.length xs ∧ ∀ i (hi : i < nss.length), ∃ s : Sl, xs[i]? = some (.slice s.a s.n s.c) ∧ Owx1 B w s nss[i]
theorem OwxN.nil (B : Nat) (w : World) : OwxN B w (.slice none 0 0) [] := ⟨[], OwnV.nil B w 45, fun i hi => absurd hi (by simp)⟩
theorem OwxN.keep {B : Nat} {w w' : World} {v : Value} {nss : List (List ByteArray)} (h : OwxN B w v nss) (hb : ∀ j, B ≤ j → j < w.heap.size → w'.heap[j]? = w.heap[j]?) : OwxN B w' v nss := by
  obtain ⟨xs, h1, h2⟩ := h
  refine ⟨xs, h1.keep (fun j e hj => hb j (h1.lt j e) hj), fun i hi => ?_⟩
  obtain ⟨s, e1, e2⟩ := h2 i hi
  exact ⟨s, e1, e2.keep (fun j h1 h2 _ => hb j h1 h2)⟩
theorem OwxN.shape {B : Nat} {w : World} {v : Value} {nss : List (List ByteArray)} (h : OwxN B w v nss) : ∃ s : Sl, v = .slice s.a s.n s.c := by
  obtain ⟨xs, h1, _⟩ := h
  obtain ⟨ao, rfl, _⟩ := h1.shape
  exact ⟨⟨ao, nss.length, xs.length⟩, rfl⟩
theorem OwxN.rd {B : Nat} {w : World} {s : Sl} {nss : List (List ByteArray)} (h : OwxN B w (.slice s.a s.n s.c) nss) : NRd w s nss := by
  obtain ⟨a, n, c⟩ := s
  obtain ⟨xs, h1, h2⟩ := h
  rcases h1 with ⟨e, e0, rfl⟩ | ⟨g, e, hg, hblk, hn, hm⟩
  · injection e with e1 e2 e3
    simp only at e1 e2 e3
    subst e1 e2 e3
    exact ⟨.inl (List.eq_nil_of_length_eq_zero e0), e0, ⟨Nat.le_refl _, Nat.zero_le _⟩, fun _ => rfl⟩
  · injection e with e1 e2 e3
    simp only at e1 e2 e3
    subst e1 e2 e3
    refine ⟨.inr ⟨g, 0, rfl, hblk.lt, fun i hi => ?_⟩, rfl, ⟨hn, by simp only [maxLen] at hm; exact hm⟩, by simp⟩
    obtain ⟨s, e1, e2⟩ := h2 i hi
    refine ⟨s, ?_, e2.rd⟩
    rw [Nat.zero_add, hblk.cell i (by omega)]
    rw [List.getElem?_eq_getElem (by omega)] at e1
    exact e1
/-- Data of one's own. -/
def DOwx (B : Nat) (w : World) (x : DA) (d : Dat) : Prop := OwxN B w (.slice x.p1.a x.p1.n x.p1.c) d.ns ∧ UOwn B w x.p2 d.us ∧ Owx1 B w x.p3 d.ts ∧ BOwn B w x.p4 d.raw
theorem DOwx.keep {B : Nat} {w w' : World} {x : DA} {d : Dat} (h : DOwx B w x d) (hb : ∀ j, B ≤ j → j < w.heap.size → w'.heap[j]? = w.heap[j]?) : DOwx B w' x d :=
  ⟨h.1.keep hb, h.2.1.keep hb, h.2.2.1.keep (fun j h1 h2 _ => hb j h1 h2), h.2.2.2.keep hb⟩
theorem DOwx.rd {B : Nat} {w : World} {x : DA} {d : Dat} (h : DOwx B w x d) : DRd w x d := ⟨h.1.rd, h.2.1.rd, h.2.2.1.rd, h.2.2.2.rd⟩
theorem OwxN.kept {B g : Nat} {w w' : World} {v : Value} {nss : List (List ByteArray)} (h : OwxN B w v nss) (hg : w.grownBy w' (some g)) (hB : g < B) : OwxN B w' v nss := h.keep fun j h1 h2 => hg.block j h2 (fun e => by cases e; omega)
theorem OwxN.stays {B : Nat} {w w' : World} {v : Value} {nss : List (List ByteArray)} (h : OwxN B w v nss) (hb : Below w.heap.size w w') : OwxN B w' v nss := h.keep fun j _ h2 => hb.block j h2
theorem Owx1.stays {B : Nat} {w w' : World} {s : Sl} {nm : List ByteArray} (h : Owx1 B w s nm) (hb : Below w.heap.size w w') : Owx1 B w' s nm := h.keep fun j _ h2 _ => hb.block j h2
theorem Owx1.kept {B g : Nat} {w w' : World} {s : Sl} {nm : List ByteArray} (h : Owx1 B w s nm) (hg : w.grownBy w' (some g)) (hB : g < B) : Owx1 B w' s nm := h.keep fun j h1 h2 _ => hg.block j h2 (fun e => by cases e; omega)
theorem Owx1.mono {B B' : Nat} {w : World} {s : Sl} {nm : List ByteArray} (h : Owx1 B w s nm) (hB : B' ≤ B) : Owx1 B' w s nm := by
  obtain ⟨ys, h1, h2⟩ := h
  exact ⟨ys, h1.mono hB, h2⟩
theorem Owx1.n {B : Nat} {w : World} {s : Sl} {nm : List ByteArray} (h : Owx1 B w s nm) : s.n = nm.length := h.rd.len.symm
theorem OwxN.mono {B B' : Nat} {w : World} {v : Value} {nss : List (List ByteArray)} (h : OwxN B w v nss) (hB : B' ≤ B) : OwxN B' w v nss := by
  obtain ⟨xs, h1, h2⟩ := h
  refine ⟨xs, h1.mono hB, fun i hi => ?_⟩
  obtain ⟨s, e1, e2⟩ := h2 i hi
  exact ⟨s, e1, e2.mono hB⟩
theorem Owx1.offTy {B : Nat} {w w' : World} {s : Sl} {us : List ByteArray} (h : Owx1 B w s us) (hg : ∃ o, w.grownBy w' o ∧ ∀ j, o = some j → B ≤ j ∧ ∃ zs, BlkV w j 45 zs) : Owx1 B w' s us := by
  obtain ⟨o, h1, h2⟩ := hg
  refine h.keep fun j _ hj ⟨zs, hz⟩ => h1.block j hj (fun e => ?_)
  obtain ⟨_, zs', hz'⟩ := h2 j e.symm
  exact absurd (blk_ty hz hz') (by decide)
theorem OwxN.keepTy {B : Nat} {w w' : World} {v : Value} {nss : List (List ByteArray)} (h : OwxN B w v nss) (hb : ∀ j, B ≤ j → j < w.heap.size → (∃ t zs, BlkV w j t zs ∧ (t = 45 ∨ t = 9)) → w'.heap[j]? = w.heap[j]?) : OwxN B w' v nss := by
  obtain ⟨xs, h1, h2⟩ := h
  refine ⟨xs, ?_, fun i hi => ?_⟩
  · rcases h1 with h1 | ⟨g, e, hg, hblk, hn⟩
    · exact .inl h1
    · exact .inr ⟨g, e, hg, hblk.same (hb g hg hblk.lt ⟨_, _, hblk, .inl rfl⟩), hn⟩
  · obtain ⟨s, e1, e2⟩ := h2 i hi
    exact ⟨s, e1, e2.keep (fun j h1 h2 ⟨zs, hz⟩ => hb j h1 h2 ⟨_, zs, hz, .inr rfl⟩)⟩
theorem DOwx.mono {B B' : Nat} {w : World} {x : DA} {d : Dat} (h : DOwx B w x d) (hB : B' ≤ B) : DOwx B' w x d := ⟨h.1.mono hB, h.2.1.mono hB, h.2.2.1.mono hB, h.2.2.2.mono hB⟩
theorem DOwx.ret4 {B B' : Nat} {W : World} {b : Nat} {x : DA} {d : Dat} (h : DOwx B W x d) (hb : b < B) (hB : B' ≤ B) : DOwx B' (set4 W b x) x d := (h.keep (fun j hj _ => set4_off W b x j (by omega))).mono hB
theorem DOwx.stays {B : Nat} {w w' : World} {x : DA} {d : Dat} (h : DOwx B w x d) (hb : Below w.heap.size w w') : DOwx B w' x d := h.keep fun j _ hj => hb.block j hj
/-- Three lists copied, and a box for them. -/
structure CqS (W1 W : World) (D : Nat) (tu tt tb : Sl) (d : Dat) : Prop where
  u : UOwn W1.heap.size W tu d.us
  t : Owx1 W1.heap.size W tt d.ts
  b : BOwn W1.heap.size W tb d.raw
  blk : DBlk W D ⟨⟨none, 0, 0⟩, tu, tt, tb⟩
  bel : Below W1.heap.size W1 W
  low : W1.heap.size ≤ D
theorem cqs_new {W1 W : World} {tu tt tb : Sl} {d : Dat} (h1 : UOwn W1.heap.size W tu d.us) (h2 : Owx1 W1.heap.size W tt d.ts) (h3 : BOwn W1.heap.size W tb d.raw) (hb : Below W1.heap.size W1 W) :
    CqS W1 (W.alloc (.cells #[.slice none 0 0, .slice tu.a tu.n tu.c, .slice tt.a tt.n tt.c, .slice tb.a tb.n tb.c] 29)) W.heap.size tu tt tb d := by
  have hn := new_below W (.cells #[.slice none 0 0, .slice tu.a tu.n tu.c, .slice tt.a tt.n tt.c, .slice tb.a tb.n tb.c] 29)
  exact ⟨h1.stays hn, h2.stays hn, h3.stays hn, heap_alloc_new _ _, hb.trans (hn.mono hb.size), hb.size⟩
theorem cqs_set {W1 W : World} {D : Nat} {y : DA} {tu tt tb : Sl} {d : Dat} (h1 : UOwn W1.heap.size W tu d.us) (h2 : Owx1 W1.heap.size W tt d.ts) (h3 : BOwn W1.heap.size W tb d.raw) (hb : Below W1.heap.size W1 W) (hD : DBlk W D y) (hl : W1.heap.size ≤ D) :
    CqS W1 ((((W.setCell ⟨D, 0, none⟩ (.slice none 0 0)).setCell ⟨D, 1, none⟩ (.slice tu.a tu.n tu.c)).setCell ⟨D, 2, none⟩ (.slice tt.a tt.n tt.c)).setCell ⟨D, 3, none⟩ (.slice tb.a tb.n tb.c)) D tu tt tb d := by
  have e := set4_off W D ⟨⟨none, 0, 0⟩, tu, tt, tb⟩
  refine ⟨h1.keepTy ?_, h2.keep ?_, h3.keepD hD e, set4_blk hD ⟨⟨none, 0, 0⟩, tu, tt, tb⟩, ?_, hl⟩
  · rintro j _ _ ⟨zs, hz⟩
    exact e j (hD.ne hz (by decide))
  · rintro j _ _ ⟨zs, hz⟩
    exact e j (hD.ne hz (by decide))
  · exact (((hb.setCell (p := ⟨D, 0, none⟩) hl _).setCell (p := ⟨D, 1, none⟩) hl _).setCell (p := ⟨D, 2, none⟩) hl _).setCell (p := ⟨D, 3, none⟩) hl _
/-- A name appended, as a step of a region. -/
theorem sq_n1 {w : World} {ops : Array Oper} {o : Oper} {a : Act} {K : Act → World → Prop} {Q : Exit → Act → World → Prop} {E : Prop} (hgd : o.guard = none) (s x : Operand)
    (ho : o.op = .call { callee := .builtin .append, args := #[s, x], argTypes := #[24, 24] }) (B : Nat) (s1 : Sl) (nss : List (List ByteArray)) (hs : a.eval s = .slice s1.a s1.n s1.c) (hown : OwxN B w (.slice s1.a s1.n s1.c) nss)
    (ao : Addr) (hx : a.eval x = .slice (some ao) 1 1) (t : Sl) (nm : List ByteArray) (hr : RdV w (some ao) [.slice t.a t.n t.c]) (ht : Owx1 B w t nm) (hn : nss.length ≤ 1000) (hB : B ≤ w.heap.size)
    (h : ∀ (t' : Sl) w', Hid (OwxN B w' (.slice t'.a t'.n t'.c) (nss ++ [nm])) → Hid (∃ o, w.grownBy w' o ∧ ∀ j, o = some j → B ≤ j ∧ ∃ zs, BlkV w j 45 zs) → K (a.put o.dst (.slice t'.a t'.n t'.c)) w') :
    if Region.wanted o (yielded ops a.tmps) = true then Oper.wp Tryz.prog o a w K Q else E := by
  obtain ⟨xs, h1, h2⟩ := hown
  refine step_append_row tyNs hgd s x 24 ho B _ nss.length xs hs h1 _ 1 [.slice t.a t.n t.c] hx (src_of Tryz.underlying24 hr rfl (by intro u hu; simp at hu; subst hu; rfl)) (by omega) (by simp only [maxLen]; omega) hB ?_
  intro v' w' xs' q1 q2 q3 q4
  obtain ⟨ao', rfl, _⟩ := q1.out.shape
  have hle := q1.out.le
  have hB1 : ∀ j, Value.ownBlock (.slice s1.a s1.n s1.c) = some j → B ≤ j ∧ ∃ zs, BlkV w j 45 zs := by
    intro j hj
    refine ⟨h1.lt j hj, ?_⟩
    rcases h1 with ⟨e3, _⟩ | ⟨g, e3, _, hblk, _⟩
    · rw [e3] at hj; cases hj
    · rw [e3] at hj
      have e4 : g = j := (Option.some.inj hj)
      subst e4
      exact ⟨_, hblk⟩
  have hkb : ∀ j, B ≤ j → j < w.heap.size → (∃ zs, BlkV w j 9 zs) → w'.heap[j]? = w.heap[j]? := by
    rintro j _ hj ⟨zs, hz⟩
    refine q3.out.block j hj (fun e => ?_)
    obtain ⟨_, zs', hz'⟩ := hB1 j e.symm
    exact absurd (blk_ty hz hz') (by decide)
  have hx' : xs'.take (nss.length + 1) = xs.take nss.length ++ [.slice t.a t.n t.c] := q2.out
  have hl : (xs.take nss.length).length = nss.length := by have := h1.le.1; rw [List.length_take]; omega
  refine h ⟨ao', nss.length + 1, xs'.length⟩ w' ⟨xs', by simpa using q1.out, fun i hi => ?_⟩ ⟨_, q3.out, hB1⟩
  rw [List.length_append, List.length_singleton] at hi
  by_cases hlt : i < nss.length
  · obtain ⟨s', e1, e2⟩ := h2 i hlt
    refine ⟨s', ?_, ?_⟩
    · have h3 : (xs'.take (nss.length + 1))[i]? = (xs.take nss.length ++ [.slice t.a t.n t.c])[i]? := by rw [hx']
      rw [List.getElem?_take_of_lt (by omega), List.getElem?_append_left (by omega), List.getElem?_take_of_lt hlt, e1] at h3
      exact h3
    · rw [List.getElem_append_left hlt]
      exact e2.keep hkb
  · have hie : i = nss.length := by omega
    subst hie
    refine ⟨t, ?_, ?_⟩
    · have h3 : (xs'.take (nss.length + 1))[nss.length]? = (xs.take nss.length ++ [.slice t.a t.n t.c])[nss.length]? := by rw [hx']
      rw [List.getElem?_take_of_lt (by omega), List.getElem?_append_right (by omega), hl] at h3
      simpa using h3
    · rw [List.getElem_append_right (by omega)]
      simp
      exact ht.keep hkb
/-- Copied, with some of the names. -/
structure CqN (W1 W : World) (D : Nat) (x : DA) (d : Dat) : Prop where
  own : DOwx W1.heap.size W x d
  blk : DBlk W D x
  bel : Below W1.heap.size W1 W
  low : W1.heap.size ≤ D
theorem CqS.start {W1 W : World} {D : Nat} {tu tt tb : Sl} {d : Dat} (h : CqS W1 W D tu tt tb d) : CqN W1 W D ⟨⟨none, 0, 0⟩, tu, tt, tb⟩ ⟨d.ns.take 0, d.us, d.ts, d.raw⟩ := ⟨⟨OwxN.nil _ _, h.u, h.t, h.b⟩, h.blk, h.bel, h.low⟩
theorem CqN.go {W1 W W' : World} {D : Nat} {x : DA} {d : Dat} (h : CqN W1 W D x d) (hb : Below W.heap.size W W') : CqN W1 W' D x d := ⟨h.own.stays hb, h.blk.same (hb.block D h.blk.lt), h.bel.trans (hb.mono h.bel.size), h.low⟩
theorem DOwx.set0 {B : Nat} {W : World} {D : Nat} {y x : DA} {d : Dat} (h : DOwx B W x d) (hD : DBlk W D y) (v : Value) : DOwx B (W.setCell ⟨D, 0, none⟩ v) x d := by
  have e : ∀ j, j ≠ D → (W.setCell ⟨D, 0, none⟩ v).heap[j]? = W.heap[j]? := fun j hj => Below.heap_setCell _ _ _ j hj
  refine ⟨h.1.keepTy ?_, h.2.1.keepTy ?_, h.2.2.1.keep ?_, h.2.2.2.keepD hD e⟩
  · rintro j _ _ ⟨t, zs, hz, ht⟩
    exact e j (hD.ne hz (by rcases ht with rfl | rfl <;> decide))
  · rintro j _ _ ⟨zs, hz⟩
    exact e j (hD.ne hz (by decide))
  · rintro j _ _ ⟨zs, hz⟩
    exact e j (hD.ne hz (by decide))
theorem CqN.step {W1 W W' : World} {D : Nat} {x : DA} {d : Dat} {t' : Sl} {nss : List (List ByteArray)} (h : CqN W1 W D x d) (ho : OwxN W1.heap.size W' (.slice t'.a t'.n t'.c) nss) (hg : ∃ o, W.grownBy W' o ∧ ∀ j, o = some j → W1.heap.size ≤ j ∧ ∃ zs, BlkV W j 45 zs) :
    CqN W1 (W'.setCell ⟨D, 0, none⟩ (.slice t'.a t'.n t'.c)) D ⟨t', x.p2, x.p3, x.p4⟩ ⟨nss, d.us, d.ts, d.raw⟩ := by
  have hD := h.blk.offTy hg
  have hown : DOwx W1.heap.size W' ⟨t', x.p2, x.p3, x.p4⟩ ⟨nss, d.us, d.ts, d.raw⟩ := ⟨ho, h.own.2.1.offTy hg, h.own.2.2.1.offTy hg, h.own.2.2.2.offTy hg⟩
  refine ⟨hown.set0 hD _, hD.set0 t', ?_, h.low⟩
  obtain ⟨o, g1, g2⟩ := hg
  have hb : Below W1.heap.size W1 W' := ⟨g1.os.trans h.bel.os, g1.tape.trans h.bel.tape, g1.output.trans h.bel.output, Nat.le_trans h.bel.size g1.size, fun j hj => (g1.block j (Nat.lt_of_lt_of_le hj h.bel.size) (fun e => by have := (g2 j e.symm).1; omega)).trans (h.bel.block j hj)⟩
  exact hb.setCell (p := ⟨D, 0, none⟩) h.low _
end Go.Proofs.YtfkfjodfjgjbkaaGreatDoor
namespace Go.Proofs.YtfkfjodfjgjbkaaGreatDoor
open Go.ChangeShapes Go.WideShapes Go.ChangeAt Go.RowKit
set_option linter.unusedVariables false
set_option linter.unusedSimpArgs false
/-- Numbers copied onto an empty list. -/
theorem st_cu0 {w : World} {ops : Array Oper} {o : Oper} {a : Act} {K : Act → World → Prop} {Q : Exit → Act → World → Prop} {E : Prop} (hgd : o.guard = none) (s x : Operand)
    (ho : o.op = .call { callee := .builtin .append, args := #[s, x], argTypes := #[25, 25] }) (B g : Nat) (hs : a.eval s = .slice (some ⟨g, 0, none⟩) 0 0) (hblk : BlkV w g 70 []) (hBg : B ≤ g) (a2 : Option Addr) (n2 c2 : Nat) (us : List Nat) (hx : a.eval x = .slice a2 n2 c2) (hr : URd w ⟨a2, n2, c2⟩ us) (hn : us.length ≤ 1000) (hB : B ≤ w.heap.size)
    (h : ∀ (t' : Sl) w', Hid (UOwn B w' t' us ∧ w.grownBy w' (some g)) → K (a.put o.dst (.slice t'.a t'.n t'.c)) w') :
    if Region.wanted o (yielded ops a.tmps) = true then Oper.wp Tryz.prog o a w K Q else E := by
  have hl : us.length = n2 := hr.len
  refine step_append_row tyU hgd s x 25 ho B _ 0 [] hs (.inr ⟨g, rfl, hBg, hblk, Nat.le_refl _, Nat.zero_le _⟩) _ n2 (uv us) hx (src_of Tryz.underlying25 hr.rd (by rw [uv_len]; exact hl) (by intro v hv; obtain ⟨y, _, rfl⟩ := List.mem_map.1 hv; rfl)) (by omega) (by simp only [maxLen]; omega) hB ?_
  intro v' w' xs' q1 q2 q3 q4
  obtain ⟨ao', rfl, _⟩ := q1.out.shape
  refine h ⟨ao', 0 + n2, xs'.length⟩ w' ⟨⟨xs', ?_, ?_, hr.bd, q4.out _ ⟨0, rfl, by omega, by omega⟩ (by simp) (by intro v hv; obtain ⟨y, hy, rfl⟩ := List.mem_map.1 hv; exact ⟨y, rfl, by omega, by have := hr.bd y hy; omega⟩)⟩, q3.out⟩
  · rw [hl]; simpa using q1.out
  · have := q2.out
    rw [hl]
    simpa using this
/-- What the world before the numbers is like: an empty list at g; perhaps a box. -/
structure PreU (W1 W : World) (g : Nat) : Prop where
  bel : Below W1.heap.size W1 W
  low : W1.heap.size ≤ g
  blk : BlkV W g 70 []
theorem preU1 (W1 : World) : PreU W1 (W1.drew.alloc (.cells #[] 70)) W1.heap.size := ⟨al_below (Below.refl _ _).drew (Nat.le_refl _), Nat.le_refl _, heap_alloc_new W1.drew _⟩
theorem preU2 (W1 : World) (o : Obj) : PreU W1 ((W1.drew.alloc o).alloc (.cells #[] 70)) (W1.heap.size + 1) := by
  refine ⟨al_below (al_below (Below.refl _ _).drew (Nat.le_refl _)) (Nat.le_refl _), Nat.le_succ _, ?_⟩
  have h := heap_alloc_new (W1.drew.alloc o) (.cells #[] 70)
  rw [show (W1.drew.alloc o).heap.size = W1.heap.size + 1 by simp] at h
  exact h
theorem preU3 (W1 : World) (o : Obj) : PreU W1 ((W1.drew.alloc (.cells #[] 70)).alloc o) W1.heap.size := by
  refine ⟨al_below (al_below (Below.refl _ _).drew (Nat.le_refl _)) (Nat.le_refl _), Nat.le_refl _, ?_⟩
  have h : BlkV (W1.drew.alloc (.cells #[] 70)) W1.heap.size 70 [] := heap_alloc_new W1.drew _
  exact h.below (new_below _ _)
theorem PreU.after {W1 W W' : World} {g : Nat} (h : PreU W1 W g) (hg : W.grownBy W' (some g)) : Below W1.heap.size W1 W' := h.bel.grown hg h.bel.size (fun j e => by injection e with e; have := h.low; omega)
theorem boxU2 (W1 Wu : World) (hg : ((W1.drew.alloc (.cells #[.slice none 0 0, .slice none 0 0, .slice none 0 0, .slice none 0 0] 29)).alloc (.cells #[] 70)).grownBy Wu (some (W1.heap.size + 1))) : DBlk Wu W1.heap.size nilDA := by
  have h : DBlk (W1.drew.alloc (.cells #[.slice none 0 0, .slice none 0 0, .slice none 0 0, .slice none 0 0] 29)) W1.heap.size nilDA := dblk_new W1.drew
  have h2 := h.same ((new_below _ (.cells #[] 70)).block _ h.lt)
  exact h2.same (hg.block _ h2.lt (by simp))
theorem boxU3 (W1 Wu : World) (hg : ((W1.drew.alloc (.cells #[] 70)).alloc (.cells #[.slice none 0 0, .slice none 0 0, .slice none 0 0, .slice none 0 0] 29)).grownBy Wu (some W1.heap.size)) : DBlk Wu (W1.heap.size + 1) nilDA := by
  have h : DBlk ((W1.drew.alloc (.cells #[] 70)).alloc (.cells #[.slice none 0 0, .slice none 0 0, .slice none 0 0, .slice none 0 0] 29)) (W1.drew.alloc (.cells #[] 70)).heap.size nilDA := dblk_new _
  rw [show (W1.drew.alloc (.cells #[] 70)).heap.size = W1.heap.size + 1 by simp] at h
  exact h.same (hg.block _ h.lt (by simp))
set_option maxRecDepth 100000 in
set_option maxHeartbeats 8000000 in
theorem kcopy_any (x : DA) (d : Dat) (w : World) (h : DRd w x d) (hS : Small d) :
    Calls Tryz.prog 9 #[.agg #[.slice x.p1.a x.p1.n x.p1.c, .slice x.p2.a x.p2.n x.p2.c, .slice x.p3.a x.p3.n x.p3.c, .slice x.p4.a x.p4.n x.p4.c]] w fun e w' => ∃ y : DA, e = .returned (.agg #[.slice y.p1.a y.p1.n y.p1.c, .slice y.p2.a y.p2.n y.p2.c, .slice y.p3.a y.p3.n y.p3.c, .slice y.p4.a y.p4.n y.p4.c]) ∧ Hid (DOwx w.heap.size w' y d ∧ Below w.heap.size w w') := by
  have hbx := new_below w (.cells #[.slice x.p1.a x.p1.n x.p1.c, .slice x.p2.a x.p2.n x.p2.c, .slice x.p3.a x.p3.n x.p3.c, .slice x.p4.a x.p4.n x.p4.c] 29)
  have HS : Hid (DBlk (w.alloc (.cells #[.slice x.p1.a x.p1.n x.p1.c, .slice x.p2.a x.p2.n x.p2.c, .slice x.p3.a x.p3.n x.p3.c, .slice x.p4.a x.p4.n x.p4.c] 29)) w.heap.size x ∧ DRd (w.alloc (.cells #[.slice x.p1.a x.p1.n x.p1.c, .slice x.p2.a x.p2.n x.p2.c, .slice x.p3.a x.p3.n x.p3.c, .slice x.p4.a x.p4.n x.p4.c] 29)) x d ∧ Below w.heap.size w (w.alloc (.cells #[.slice x.p1.a x.p1.n x.p1.c, .slice x.p2.a x.p2.n x.p2.c, .slice x.p3.a x.p3.n x.p3.c, .slice x.p4.a x.p4.n x.p4.c] 29))) := ⟨heap_alloc_new _ _, h.below hbx, hbx⟩
  have HB : Hid (Bd d) := hS.bd
  have HZ0 : Hid ((w.alloc (.cells #[.slice x.p1.a x.p1.n x.p1.c, .slice x.p2.a x.p2.n x.p2.c, .slice x.p3.a x.p3.n x.p3.c, .slice x.p4.a x.p4.n x.p4.c] 29)).heap.size = w.heap.size + 1) := by show _ = _; simp
  have hn3 : d.ts.length = x.p3.n := h.h3.len
  have hn4 : d.raw.length = x.p4.n := h.h4.len
  have KT : Hid (∀ W B, TRd W x.p3 d.ts → B ≤ W.heap.size → Calls Tryz.prog 34 #[.slice x.p3.a x.p3.n x.p3.c] W fun e w' => ∃ tt : Sl, e = .returned (.slice tt.a tt.n tt.c) ∧ Hid (Owx1 B w' tt d.ts ∧ Below W.heap.size W w')) := fun W B hW hB => by
    refine (copyT_any x.p3.a x.p3.c x.p3.n d.ts 9223372036854775807 W hW.rd hW.len hW.z63 (by have := hS.t; omega)).mono ?_
    rintro e w' ⟨v, ys, rfl, H⟩
    obtain ⟨q1, q2, q3⟩ := H.out
    obtain ⟨ao, rfl, _⟩ := q1.shape
    exact ⟨⟨ao, _, _⟩, rfl, ⟨ys, q1.mono hB, q2⟩, q3⟩
  have KY : Hid (∀ W B, BRd W x.p4 d.raw → B ≤ W.heap.size → Calls Tryz.prog 35 #[.slice x.p4.a x.p4.n x.p4.c] W fun e w' => ∃ tb : Sl, e = .returned (.slice tb.a tb.n tb.c) ∧ Hid (BOwn B w' tb d.raw ∧ Below W.heap.size W w')) := fun W B hW hB => by
    have hK := copy_any x.p4.a x.p4.c d.raw W hW.rd hW.nil (by have := hS.r; omega)
    rw [hW.len] at hK
    refine hK.mono ?_
    rintro e w' ⟨v, ys, rfl, q1, q2, q3⟩
    obtain ⟨ao, rfl, _⟩ := q1.addr
    refine ⟨⟨ao, x.p4.n, ys.length⟩, rfl, ⟨ys, ?_, ?_⟩, q3⟩
    · rw [hW.len]; exact q1.mono hB
    · rw [hW.len]; exact q2
  clear h hbx
  obtain ⟨⟨a1, n1, k1⟩, ⟨a2, n2, k2⟩, ⟨a3, n3, k3⟩, ⟨a4, n4, k4⟩⟩ := x
  simp only at HS HZ0 KT KY hn3 hn4 ⊢
  go_enter Tryz.func9, Tryz.ntmps9
  go_upto_region 1 with fail
  generalize (w.alloc (.cells #[.slice a1 n1 k1, .slice a2 n2 k2, .slice a3 n3 k3, .slice a4 n4 k4] 29)) = W0 at *
  obtain ⟨b, hb⟩ : ∃ b, b = w.heap.size := ⟨_, rfl⟩
  rw [← hb] at HS HZ0 ⊢
  have Hb : Hid (b = w.heap.size) := hb
  clear hb
  have hz0 := HS.out.1.lt
  have HS1 : Hid (DBlk (W0.alloc (.cells #[.slice none 0 0, .slice none 0 0, .slice none 0 0, .slice none 0 0] 29)) b ⟨⟨a1, n1, k1⟩, ⟨a2, n2, k2⟩, ⟨a3, n3, k3⟩, ⟨a4, n4, k4⟩⟩ ∧ DBlk (W0.alloc (.cells #[.slice none 0 0, .slice none 0 0, .slice none 0 0, .slice none 0 0] 29)) (b + 1) nilDA ∧ DRd (W0.alloc (.cells #[.slice none 0 0, .slice none 0 0, .slice none 0 0, .slice none 0 0] 29)) ⟨⟨a1, n1, k1⟩, ⟨a2, n2, k2⟩, ⟨a3, n3, k3⟩, ⟨a4, n4, k4⟩⟩ d ∧ Below b w (W0.alloc (.cells #[.slice none 0 0, .slice none 0 0, .slice none 0 0, .slice none 0 0] 29)) ∧ (W0.alloc (.cells #[.slice none 0 0, .slice none 0 0, .slice none 0 0, .slice none 0 0] 29)).heap.size = b + 2) := by
    have hn := new_below W0 (.cells #[.slice none 0 0, .slice none 0 0, .slice none 0 0, .slice none 0 0] 29)
    have hD := dblk_new W0
    rw [HZ0.out] at hD
    exact ⟨HS.out.1.same (hn.block _ HS.out.1.lt), hD, HS.out.2.1.below hn, HS.out.2.2.trans (hn.mono (by omega)), by simp [HZ0.out]⟩
  clear HS HZ0 hz0
  generalize (W0.alloc (.cells #[.slice none 0 0, .slice none 0 0, .slice none 0 0, .slice none 0 0] 29)) = W1 at *
  have HK0 : Hid (DBlk W1.drew b ⟨⟨a1, n1, k1⟩, ⟨a2, n2, k2⟩, ⟨a3, n3, k3⟩, ⟨a4, n4, k4⟩⟩) := HS1.out.1
  have HD0 : Hid (DRd W1.drew ⟨⟨a1, n1, k1⟩, ⟨a2, n2, k2⟩, ⟨a3, n3, k3⟩, ⟨a4, n4, k4⟩⟩ d) := HS1.out.2.2.1.below (Below.refl _ _).drew
  have HB0 : Hid (Below W1.heap.size W1 W1.drew) := (Below.refl _ _).drew
  have c1 : W1.cell? ⟨b, 1, none⟩ = some (.slice a2 n2 k2) := HS1.out.1.box.2.1
  have c2 : W1.cell? ⟨b, 2, none⟩ = some (.slice a3 n3 k3) := HS1.out.1.box.2.2.1
  have c3 : W1.cell? ⟨b, 3, none⟩ = some (.slice a4 n4 k4) := HS1.out.1.box.2.2.2.1
  have hbl := HS1.out.1.lt
  go_cut [3] from 5 to 15 (fun s3 wx => ∃ (D : Nat) (tu tt tb : Sl), s3 = .pointer (some ⟨D, 0, none⟩) ∧ Hid (CqS W1 wx D tu tt tb d))
  case first =>
    have hb1 : ¬ b = W1.heap.size := by omega
    have hb2 : ¬ b = W1.heap.size + 1 := by omega
    go_region_held3 (fun W => W.cell? ⟨b, 1, none⟩ = some (.slice a2 n2 k2) ∧ W.cell? ⟨b, 2, none⟩ = some (.slice a3 n3 k3) ∧ W.cell? ⟨b, 3, none⟩ = some (.slice a4 n4 k4)) (exact ⟨by go_keep, by go_keep, by go_keep⟩) (first
      | (refine st_cu0 rfl _ _ rfl W1.heap.size _ rfl (by first | exact (preU1 W1).blk | exact (preU2 W1 _).blk | exact (preU3 W1 _).blk) (by first | exact (preU1 W1).low | exact (preU2 W1 (.cells #[] 70)).low) a2 n2 k2 d.us rfl (HS1.out.2.2.1.h2.below (by first | exact (preU1 W1).bel | exact (preU2 W1 _).bel | exact (preU3 W1 _).bel)) HB.out.u (by first | exact (preU1 W1).bel.size | exact (preU2 W1 _).bel.size | exact (preU3 W1 _).bel.size) ?_; intro tu Wu Hu; have HBu : Hid (Below W1.heap.size W1 Wu) := (by first | exact (preU1 W1).after Hu.out.2 | exact (preU2 W1 _).after Hu.out.2 | exact (preU3 W1 _).after Hu.out.2); have HKu : Hid (DBlk Wu b ⟨⟨a1, n1, k1⟩, ⟨a2, n2, k2⟩, ⟨a3, n3, k3⟩, ⟨a4, n4, k4⟩⟩) := HS1.out.1.same (HBu.out.block _ HS1.out.1.lt); have HDu : Hid (DRd Wu ⟨⟨a1, n1, k1⟩, ⟨a2, n2, k2⟩, ⟨a3, n3, k3⟩, ⟨a4, n4, k4⟩⟩ d) := HS1.out.2.2.1.below HBu.out; have e1 : Wu.cell? ⟨b, 1, none⟩ = some (.slice a2 n2 k2) := (HKu.out).box.2.1; have e2 : Wu.cell? ⟨b, 2, none⟩ = some (.slice a3 n3 k3) := (HKu.out).box.2.2.1; have e3 : Wu.cell? ⟨b, 3, none⟩ = some (.slice a4 n4 k4) := (HKu.out).box.2.2.2.1; have el : b < Wu.heap.size := (HKu.out).lt; (try (have hDu : Hid (DBlk Wu W1.heap.size nilDA) := boxU2 W1 Wu Hu.out.2)); (try (have hDu : Hid (DBlk Wu (W1.heap.size + 1) nilDA) := boxU3 W1 Wu Hu.out.2)); (try (have x0 := hDu.out.fz 0; have x1 := hDu.out.fz 1; have x2 := hDu.out.fz 2; have x3 := hDu.out.fz 3; have y0 := hDu.out.box.1; have y1 := hDu.out.box.2.1; have y2 := hDu.out.box.2.2.1; have y3 := hDu.out.box.2.2.2.1; (try simp only at y0 y1 y2 y3))))
      | (go_at_call 34; refine (KT.out _ W1.heap.size (by first | exact HDu.out.h3 | exact HDu.out.h3.below (new_below _ _)) (by first | exact HBu.out.size | exact (al_below HBu.out (Nat.le_refl _)).size)).mono ?_; rintro e Wt ⟨tt, rfl, Ht⟩; have HBt : Hid (Below W1.heap.size W1 Wt) := (by first | exact HBu.out.trans (Ht.out.2.mono HBu.out.size) | exact (al_below HBu.out (Nat.le_refl _)).trans (Ht.out.2.mono (al_below HBu.out (Nat.le_refl _)).size)); have HKt : Hid (DBlk Wt b ⟨⟨a1, n1, k1⟩, ⟨a2, n2, k2⟩, ⟨a3, n3, k3⟩, ⟨a4, n4, k4⟩⟩) := (by first | exact HKu.out.same (Ht.out.2.block _ HKu.out.lt) | exact (HKu.out.same ((new_below _ _).block _ HKu.out.lt)).same (Ht.out.2.block _ (Nat.lt_of_lt_of_le HKu.out.lt (new_below _ _).size))); have HDt : Hid (DRd Wt ⟨⟨a1, n1, k1⟩, ⟨a2, n2, k2⟩, ⟨a3, n3, k3⟩, ⟨a4, n4, k4⟩⟩ d) := (by first | exact HDu.out.below Ht.out.2 | exact (HDu.out.below (new_below _ _)).below Ht.out.2); have HUt : Hid (UOwn W1.heap.size Wt tu d.us) := (by first | exact (Hu.out.1).stays Ht.out.2 | exact ((Hu.out.1).stays (new_below _ _)).stays Ht.out.2); have f1 : Wt.cell? ⟨b, 1, none⟩ = some (.slice a2 n2 k2) := (HKt.out).box.2.1; have f2 : Wt.cell? ⟨b, 2, none⟩ = some (.slice a3 n3 k3) := (HKt.out).box.2.2.1; have f3 : Wt.cell? ⟨b, 3, none⟩ = some (.slice a4 n4 k4) := (HKt.out).box.2.2.2.1; have fl : b < Wt.heap.size := (HKt.out).lt; (try (have hDt : Hid (DBlk Wt Wu.heap.size nilDA) := (dblk_new Wu).same (Ht.out.2.block _ (dblk_new Wu).lt))); (try (have hDt := Lib.hid (hDu.out.same (Ht.out.2.block _ hDu.out.lt)))); (try (have x0 := hDt.out.fz 0; have x1 := hDt.out.fz 1; have x2 := hDt.out.fz 2; have x3 := hDt.out.fz 3; have y0 := hDt.out.box.1; have y1 := hDt.out.box.2.1; have y2 := hDt.out.box.2.2.1; have y3 := hDt.out.box.2.2.2.1; (try simp only at y0 y1 y2 y3))))
      | (go_at_call 35; refine (KY.out _ W1.heap.size (by first | exact HDt.out.h4 | exact HDt.out.h4.below (new_below _ _)) (by first | exact HBt.out.size | exact (al_below HBt.out (Nat.le_refl _)).size)).mono ?_; rintro e Wv ⟨tb, rfl, Hv⟩; have HBv : Hid (Below W1.heap.size W1 Wv) := (by first | exact HBt.out.trans (Hv.out.2.mono HBt.out.size) | exact (al_below HBt.out (Nat.le_refl _)).trans (Hv.out.2.mono (al_below HBt.out (Nat.le_refl _)).size)); have HKv : Hid (DBlk Wv b ⟨⟨a1, n1, k1⟩, ⟨a2, n2, k2⟩, ⟨a3, n3, k3⟩, ⟨a4, n4, k4⟩⟩) := (by first | exact HKt.out.same (Hv.out.2.block _ HKt.out.lt) | exact (HKt.out.same ((new_below _ _).block _ HKt.out.lt)).same (Hv.out.2.block _ (Nat.lt_of_lt_of_le HKt.out.lt (new_below _ _).size))); have HUv : Hid (UOwn W1.heap.size Wv tu d.us) := (by first | exact (HUt.out).stays Hv.out.2 | exact ((HUt.out).stays (new_below _ _)).stays Hv.out.2); have HTv : Hid (Owx1 W1.heap.size Wv tt d.ts) := (by first | exact (Ht.out.1).stays Hv.out.2 | exact ((Ht.out.1).stays (new_below _ _)).stays Hv.out.2); have g1 : Wv.cell? ⟨b, 1, none⟩ = some (.slice a2 n2 k2) := (HKv.out).box.2.1; have g2 : Wv.cell? ⟨b, 2, none⟩ = some (.slice a3 n3 k3) := (HKv.out).box.2.2.1; have g3 : Wv.cell? ⟨b, 3, none⟩ = some (.slice a4 n4 k4) := (HKv.out).box.2.2.2.1; have gl : b < Wv.heap.size := (HKv.out).lt; (try (have hDv : Hid (DBlk Wv Wt.heap.size nilDA) := (dblk_new Wt).same (Hv.out.2.block _ (dblk_new Wt).lt))); (try (have hDv := Lib.hid (hDt.out.same (Hv.out.2.block _ hDt.out.lt)))); (try (have x0 := hDv.out.fz 0; have x1 := hDv.out.fz 1; have x2 := hDv.out.fz 2; have x3 := hDv.out.fz 3; have y0 := hDv.out.box.1; have y1 := hDv.out.box.2.1; have y2 := hDv.out.box.2.2.1; have y3 := hDv.out.box.2.2.2.1; (try simp only at y0 y1 y2 y3))); have hbD : ¬ b = Wt.heap.size := (by omega); have hbD' : ¬ Wt.heap.size = b := (by omega); have hbD2 : ¬ b = Wu.heap.size := (by omega); have hbD2' : ¬ Wu.heap.size = b := (by omega); have hbD3 : ¬ b = W1.heap.size := (by omega); have hbD3' : ¬ W1.heap.size = b := (by omega); have hbD4 : ¬ b = W1.heap.size + 1 := (by omega); have hbD4' : ¬ W1.heap.size + 1 = b := (by omega)))
    all_goals
      go_wp2_with fail
      go_meet
      first
        | exact ⟨_, tu, tt, tb, rfl, cqs_new HUv.out HTv.out Hv.out.1 HBv.out⟩
        | exact ⟨_, tu, tt, tb, rfl, cqs_set HUv.out HTv.out Hv.out.1 HBv.out hDv.out (by first | exact HBt.out.size | exact HBu.out.size | exact Nat.le_refl _ | exact Nat.le_succ _)⟩
  case rest =>
    obtain ⟨D, tu, tt, tb, rfl, HC⟩ := hcut
    clear HB0 HD0 HK0 c1 c2 c3 hbl
    have HCN : Hid (∃ tn : Sl, CqN W1 wc D ⟨tn, tu, tt, tb⟩ ⟨d.ns.take 0, d.us, d.ts, d.raw⟩) := ⟨_, HC.out.start⟩
    have c0 : wc.cell? ⟨b, 0, none⟩ = some (.slice a1 n1 k1) := (HS1.out.1.same (HC.out.bel.block b HS1.out.1.lt)).box.1
    have hn1 : d.ns.length = n1 := HS1.out.2.2.1.h1.len
    have HLN : Hid (d.ns.length = n1) := hn1
    have hn1b : n1 ≤ 1000 := by rw [← hn1]; exact HB.out.n
    clear HC hn1 HB KT KY hn3 hn4
    go_wp2_with fail
    clear c0
    go_loopw [4] (fun v wr => ∃ k : Nat, k ≤ n1 ∧ v = .int .i64 (k : Int) ∧ Hid (∃ tn : Sl, CqN W1 wr D ⟨tn, tu, tt, tb⟩ ⟨d.ns.take k, d.us, d.ts, d.raw⟩)) (fun v _ => n1 - (intOf v).toNat)
    case atStart => exact ⟨0, Nat.zero_le _, rfl, HCN⟩
    case round =>
      clear HCN
      obtain ⟨k, hk, rfl, HG⟩ := hrel
      obtain ⟨tn, HGn⟩ : ∃ tn : Sl, Hid (CqN W1 wr D ⟨tn, tu, tt, tb⟩ ⟨d.ns.take k, d.us, d.ts, d.raw⟩) := HG.out
      clear HG
      have HG : Hid (CqN W1 wr D ⟨tn, tu, tt, tb⟩ ⟨d.ns.take k, d.us, d.ts, d.raw⟩) := HGn.out
      clear HGn
      by_cases hlt : k < n1
      · have hlt' : (k : Int) < (n1 : Int) := by omega
        have hki : k < d.ns.length := by rw [HLN.out]; exact hlt
        obtain ⟨b1, o1, ha, hbl1, y, hy, hyr⟩ := (HS1.out.2.2.1.h1.below HG.out.bel).at k hki
        simp only at ha
        subst ha
        have KCP : Hid (Calls Tryz.prog 36 #[.slice y.a y.n y.c] wr.drew (CopyPost d.ns[k] 9223372036854775807 wr.drew)) := copyN_any y.a y.c y.n d.ns[k] 9223372036854775807 wr.drew (hyr.rd.below (Below.refl _ _).drew) hyr.len hyr.z63 (by have := hS.nl _ (List.getElem_mem hki); have := hyr.len; omega)
        have hb1s : W1.heap.size ≤ wr.heap.size := HG.out.bel.size
        have KC2 : Hid (Calls Tryz.prog 36 #[.slice y.a y.n y.c] wr.drew fun e w' => ∃ s5 : Sl, e = .returned (.slice s5.a s5.n s5.c) ∧ Hid (Owx1 W1.heap.size w' s5 d.ns[k] ∧ Below wr.drew.heap.size wr.drew w')) := by
          refine Calls.mono KCP.out ?_
          rintro e w' ⟨v, ys, rfl, H⟩
          obtain ⟨q1, q2, q3⟩ := H.out
          obtain ⟨ao, rfl, _⟩ := q1.shape
          exact ⟨⟨ao, _, _⟩, rfl, ⟨ys, q1.mono hb1s, q2⟩, q3⟩
        clear KCP
        have HTK : Hid (d.ns.take (k + 1) = d.ns.take k ++ [d.ns[k]]) := List.take_succ_eq_append_getElem hki
        have HKL : Hid ((d.ns.take k).length ≤ 1000) := by show _ ≤ _; rw [List.length_take]; omega
        clear hyr
        generalize d.ns[k] = nm at *
        generalize d.ns.take k = nk at *
        have c0 : wr.cell? ⟨D, 0, none⟩ = some (.slice tn.a tn.n tn.c) := HG.out.blk.box.1
        have cb0 : wr.cell? ⟨b, 0, none⟩ = some (.slice (some ⟨b1, o1, none⟩) n1 k1) := (HS1.out.1.same (HG.out.bel.block b HS1.out.1.lt)).box.1
        have z0 := HG.out.blk.fz 0
        have hDl := HG.out.blk.lt
        go_wp2_with fail
        go_region_law (first
          | (refine sq_n1 rfl _ _ rfl W1.heap.size tn nk rfl (HG5.out.go (new_below _ _)).own.1 ⟨W5.heap.size, 0, none⟩ rfl s5 nm (one_n W5 s5) (H5.out.1.stays (new_below _ _)) HKL.out (HG5.out.go (new_below _ _)).bel.size ?_; intro t7 W7 H7 HX7; have HD7 : Hid (DBlk W7 D ⟨tn, tu, tt, tb⟩) := (HG5.out.go (new_below _ _)).blk.offTy HX7.out; have f0 : W7.cell? ⟨D, 0, none⟩ = some (.slice tn.a tn.n tn.c) := HD7.out.box.1; have fz0 := HD7.out.fz 0; have fDl := HD7.out.lt)
          | (go_simp; go_at_call 36; refine KC2.out.mono ?_; rintro e W5 ⟨s5, rfl, H5⟩; have HG5 : Hid (CqN W1 W5 D ⟨tn, tu, tt, tb⟩ ⟨nk, d.us, d.ts, d.raw⟩) := (HG.out.go (Below.refl _ _).drew).go H5.out.2; have e0 : W5.cell? ⟨D, 0, none⟩ = some (.slice tn.a tn.n tn.c) := HG5.out.blk.box.1; have ez := HG5.out.blk.fz 0; have eDl := HG5.out.blk.lt))
        all_goals
          have HG8 : Hid (CqN W1 (W7.setCell ⟨D, 0, none⟩ (.slice t7.a t7.n t7.c)) D ⟨t7, tu, tt, tb⟩ ⟨nk ++ [nm], d.us, d.ts, d.raw⟩) := (HG5.out.go (new_below _ _)).step H7.out HX7.out
          rw [← HTK.out] at HG8
          go_wp2_with fail
          exact ⟨⟨k + 1, by omega, by go_num, ⟨t7, HG8.out⟩⟩, by simp [intOf]; omega⟩
      · have hge : ¬ (k : Int) < (n1 : Int) := by omega
        have hkn : k = n1 := by omega
        have HGE : Hid (CqN W1 wr D ⟨tn, tu, tt, tb⟩ d) := by
          have := HG.out
          rw [List.take_of_length_le (by rw [HLN.out]; omega)] at this
          exact this
        clear HG
        have cb0 : wr.cell? ⟨b, 0, none⟩ = some (.slice a1 n1 k1) := (HS1.out.1.same (HGE.out.bel.block b HS1.out.1.lt)).box.1
        have d0 : wr.cell? ⟨D, 0, none⟩ = some (.slice tn.a tn.n tn.c) := HGE.out.blk.box.1
        have d1 : wr.cell? ⟨D, 1, none⟩ = some (.slice tu.a tu.n tu.c) := HGE.out.blk.box.2.1
        have d2 : wr.cell? ⟨D, 2, none⟩ = some (.slice tt.a tt.n tt.c) := HGE.out.blk.box.2.2.1
        have d3 : wr.cell? ⟨D, 3, none⟩ = some (.slice tb.a tb.n tb.c) := HGE.out.blk.box.2.2.2.1
        have HRB : Hid (DBlk wr (b + 1) nilDA) := HS1.out.2.1.same (HGE.out.bel.block _ HS1.out.2.1.lt)
        have r0 : wr.cell? ⟨b + 1, 0, none⟩ = some (.slice none 0 0) := HRB.out.box.1
        have r1 : wr.cell? ⟨b + 1, 1, none⟩ = some (.slice none 0 0) := HRB.out.box.2.1
        have r2 : wr.cell? ⟨b + 1, 2, none⟩ = some (.slice none 0 0) := HRB.out.box.2.2.1
        have r3 : wr.cell? ⟨b + 1, 3, none⟩ = some (.slice none 0 0) := HRB.out.box.2.2.2.1
        have z0 := HRB.out.fz 0
        have z1 := HRB.out.fz 1
        have z2 := HRB.out.fz 2
        have z3 := HRB.out.fz 3
        have hbl := HRB.out.lt
        have hDl := HGE.out.blk.lt
        go_wp2_with fail
        have hW2 : W1.heap.size = b + 2 := HS1.out.2.2.2.2
        have HBW : Below w.heap.size w wr := by
          have h1 := HS1.out.2.2.2.1
          have h2 := Hb.out
          rw [h2] at h1
          exact h1.trans (HGE.out.bel.mono h1.size)
        have HX := ret4 HRB.out HBW (by have := Hb.out; omega) ⟨tn, tu, tt, tb⟩
        have HY : DOwx w.heap.size (set4 wr (b + 1) ⟨tn, tu, tt, tb⟩) ⟨tn, tu, tt, tb⟩ d := HGE.out.own.ret4 (by omega) (by have := Hb.out; omega)
        have k0 := HX.1.box.1
        have k1' := HX.1.box.2.1
        have k2' := HX.1.box.2.2.1
        have k3' := HX.1.box.2.2.2.1
        simp only [set4] at k0 k1' k2' k3'
        refine bodyPost_ret (v := .agg #[.slice tn.a tn.n tn.c, .slice tu.a tu.n tu.c, .slice tt.a tt.n tt.c, .slice tb.a tb.n tb.c]) ?_ rfl ⟨⟨tn, tu, tt, tb⟩, rfl, HY, HX.2⟩
        simp [results, Tryz.results9, go_sem, k0, k1', k2', k3']
end Go.Proofs.YtfkfjodfjgjbkaaGreatDoor
namespace Go.Proofs.YtfkfjodfjgjbkaaGreatDoor
open Go.ChangeShapes Go.WideShapes Go.ChangeAt Go.RowKit
set_option linter.unusedVariables false
set_option linter.unusedSimpArgs false
set_option maxRecDepth 100000 in
set_option maxHeartbeats 400000 in
theorem overT_nil (w : World) : Calls Tryz.prog 20 #[.slice none 0 0] w fun e w' => e = .returned (.tuple #[]) ∧ w' = w := by
  go_enter Tryz.func20, Tryz.ntmps20
  go_wp2
  go_loopw [3] (fun i wr => wr = w ∧ i = .int .i64 0) (fun _ _ => 0)
  case atStart => exact ⟨rfl, rfl⟩
  case round =>
    obtain ⟨hwr, rfl⟩ := hrel
    subst hwr
    go_wp2
    go_end0
    exact ⟨rfl, rfl⟩
/-- Texts' blocks from B up to C may be written over, up to k times; nothing else. -/
structure Ov9 (B C k : Nat) (W1 W : World) : Prop where
  os : W.os = W1.os
  tape : W.tape = W1.tape
  output : W.output = W1.output
  size : W.heap.size = W1.heap.size
  out : ∀ j, j < W1.heap.size → (j < B ∨ C ≤ j) → W.heap[j]? = W1.heap[j]?
  ins : ∀ j ys, BlkV W1 j 9 (tv ys) → (∀ s ∈ ys, s.size ≤ 1000000000000) → ∃ ys', BlkV W j 9 (tv ys') ∧ ys'.length = ys.length ∧ ∀ s ∈ ys', s.size ≤ 1000000000000 + k
theorem Ov9.refl (B C : Nat) (W : World) : Ov9 B C 0 W W := ⟨rfl, rfl, rfl, rfl, fun _ _ _ => rfl, fun j ys h1 h2 => ⟨ys, h1, rfl, fun s hs => h2 s hs⟩⟩
/-- Numbers' block is written over: texts stay. -/
theorem Ov9.nums {B C k : Nat} {W1 W W' : World} {g : Nat} {xs xs' : List Value} (h : Ov9 B C k W1 W) (hg : B ≤ g ∧ g < C) (hb : BlkV W1 g 70 xs) (hgr : W.grownBy W' (some g)) (hs : W'.heap.size = W.heap.size) : Ov9 B C k W1 W' := by
  refine ⟨hgr.os.trans h.os, hgr.tape.trans h.tape, hgr.output.trans h.output, hs.trans h.size, fun j hj ho => ?_, fun j ys h1 h2 => ?_⟩
  · exact (hgr.block j (by rw [h.size]; exact hj) (fun e => by have := Option.some.inj e; omega)).trans (h.out j hj ho)
  · obtain ⟨ys', a1, a2, a3⟩ := h.ins j ys h1 h2
    refine ⟨ys', a1.same (hgr.block j a1.lt (fun e => ?_)), a2, a3⟩
    have := Option.some.inj e
    subst this
    exact absurd (blk_ty h1 hb) (by decide)
end Go.Proofs.YtfkfjodfjgjbkaaGreatDoor
