/- What follows of names: what was written is read so; the order is one. -/
import Derived.Test.YtfnpiknobmecbaaNv
import Derived.Test.YtfnpiknobmecbaaBk
namespace Go.Proofs.Ytfnpiknobmecbaa
open Go.ChangeShapes Go.WideShapes Go.ChangeAt Go.RowKit
set_option linter.unusedVariables false
set_option linter.unusedSimpArgs false


/-- The text of labels, as numbers. -/
def flat (l : List ByteArray) : List Int := l.flatMap fun s => tx (nums s) ++ [46]
theorem nums_tb (s : ByteArray) : nums (tb s) = tx (nums s) := nums_back _ (tx_bd _ (nums_all s))
theorem nums_ntxt (l : List ByteArray) : nums (ntxt l) = flat l := by
  have : ∀ (l : List ByteArray) (acc : ByteArray), nums (l.foldl (fun acc s => acc ++ tb s ++ ⟨#[46]⟩) acc) = nums acc ++ flat l := by
    intro l
    induction l with
    | nil => intro acc; simp [flat]
    | cons s l ih =>
      intro acc
      rw [List.foldl_cons, ih, nums_cat, nums_cat, nums_tb]
      simp [flat]
      rfl
  have h := this l ⟨#[]⟩
  rw [show nums ⟨#[]⟩ = [] from rfl, List.nil_append] at h
  exact h
theorem chk_ok {n : Nat} (h : chk n = 0) : 1 ≤ n ∧ n ≤ 63 := by
  unfold chk at h
  split at h
  · assumption
  · cases h
theorem lgo_flat : ∀ (ss : List ByteArray) (out : List ByteArray), ss ≠ [] → labsOk ss → lgo (flat ss) out = (out ++ ss, true, 0)
  | [], _, h, _ => absurd rfl h
  | s :: r, out, _, hok => by
    have hs := chk_ok (hok s (by simp))
    have hf : flat (s :: r) = tx (nums s) ++ (46 :: flat r) := by simp [flat]
    have hp := pres_tx (nums s) (46 :: flat r) (nums_all s) (.inr ⟨_, rfl⟩) (by rw [nums_len]; exact hs)
    rw [← hf] at hp
    have hd : (flat (s :: r)).drop ((tx (nums s)).length + 1) = flat r := by
      rw [hf, List.drop_append, List.drop_eq_nil_of_le (by omega), Nat.add_sub_cancel_left]; rfl
    rw [lgo, hp]
    have hlb : lb (nums s) = s := txt_back s
    simp only [if_true, Int.toNat_natCast, hd, hlb]
    rw [if_neg (by rw [hf, List.length_append]; simp; omega)]
    by_cases hr : r = []
    · subst hr
      rw [dif_pos (by simp [flat])]
    · have hne : ¬ (flat r).length = 0 := by
        obtain ⟨x, r', rfl⟩ := List.exists_cons_of_ne_nil hr
        simp [flat]
      rw [dif_neg hne, lgo_flat r (out ++ [s]) hr (fun x hx => hok x (by simp [hx]))]
      simp
theorem ba_list (s : ByteArray) : (nums s) = s.toList.map fun b => (b.toNat : Int) := by rw [ba_toList]; rfl
theorem flat_two (ss : List ByteArray) (h : ss ≠ []) (hok : labsOk ss) : 2 ≤ (flat ss).length := by
  obtain ⟨s, r, rfl⟩ := List.exists_cons_of_ne_nil h
  have hs := chk_ok (hok s (by simp))
  have hne : nums s ≠ [] := fun e => by have := nums_len s; rw [e] at this; simp at this; omega
  obtain ⟨c, l, hcl⟩ := List.exists_cons_of_ne_nil hne
  have h1 := tx1_len c
  have : 1 ≤ (tx (nums s)).length := by rw [hcl]; simp only [tx, List.flatMap_cons, List.length_append]; omega
  simp only [flat, List.flatMap_cons, List.length_append, List.length_cons, List.length_nil]
  omega
theorem ntxt_not (ss : List ByteArray) (h : ss ≠ []) (hok : labsOk ss) (x : UInt8) : ¬ (ntxt ss).toList = [x] := by
  intro e
  have h1 := flat_two ss h hok
  have h2 := nums_ntxt ss
  rw [ba_list, e] at h2
  have := congrArg List.length h2
  simp at this
  omega
/-- A name's text is read as the name. -/
theorem parse_text (ss : List ByteArray) (h : nck ss = 0) : nparse (ntext ss).1 = (ss, 0) := by
  have hok := (nck_small h).2
  unfold ntext
  rw [if_pos h]
  by_cases h0 : ss = []
  · subst h0
    rw [if_pos (show ([] : List ByteArray).length = 0 from rfl)]
    unfold nparse
    rw [if_pos (by rw [ba_toList])]
  · have hl : ¬ ss.length = 0 := fun e => h0 (List.eq_nil_of_length_eq_zero e)
    rw [if_neg hl]
    unfold nparse
    rw [if_neg (ntxt_not ss h0 hok 46)]
    simp only [nums_ntxt, lgo_flat ss [] h0 hok, List.nil_append, if_true, h]
theorem rel_text (ss og : List ByteArray) (h : nck ss = 0) (hg : nck og = 0) : nrel (ntext ss).1 og = (ss, 0) := by
  have hok := (nck_small h).2
  have hp := parse_text ss h
  unfold nrel
  rw [if_pos hg]
  unfold ntext at hp ⊢
  rw [if_pos h] at hp ⊢
  by_cases h0 : ss = []
  · subst h0
    rw [if_pos (show ([] : List ByteArray).length = 0 from rfl)]
    simp only
    rw [if_neg (by rw [ba_toList]; decide), if_pos (by rw [ba_toList])]
  · have hl : ¬ ss.length = 0 := fun e => h0 (List.eq_nil_of_length_eq_zero e)
    rw [if_neg hl] at hp ⊢
    simp only at hp ⊢
    rw [if_neg (ntxt_not ss h0 hok 64), if_neg (ntxt_not ss h0 hok 46)]
    simp only [nums_ntxt, lgo_flat ss [] h0 hok, if_true, hp]
theorem rgo_nby : ∀ (ss : List ByteArray) (P R : List Int) (out : List ByteArray), labsOk ss → rgo (P ++ (nby ss ++ (0 :: R))) P.length out = some (out ++ ss, P.length + (nby ss).length + 1)
  | [], P, R, out, _ => by
    rw [rgo_zero]
    · simp [nby]
    · simp [nby, List.getD_eq_getElem?_getD]
    · simp [nby, List.getD_eq_getElem?_getD]
  | s :: r, P, R, out, hok => by
    have hs := chk_ok (hok s (by simp))
    have hf : nby (s :: r) ++ (0 :: R) = (s.size : Int) :: (nums s ++ (nby r ++ (0 :: R))) := by simp [nby]
    have hg : (P ++ (nby (s :: r) ++ (0 :: R))).getD P.length 0 = (s.size : Int) := by
      rw [hf]; simp [List.getD_eq_getElem?_getD]
    have hlen : (P ++ (nby (s :: r) ++ (0 :: R))).length = P.length + (1 + (s.size + ((nby r).length + (1 + R.length)))) := by
      rw [hf]; simp [nums_len]; omega
    have hd : ((P ++ (nby (s :: r) ++ (0 :: R))).drop (P.length + 1)).take s.size = nums s := by
      rw [hf, List.drop_append, List.drop_eq_nil_of_le (by omega), Nat.add_sub_cancel_left, List.nil_append]
      show (nums s ++ _).take s.size = nums s
      rw [List.take_append_of_le_length (by rw [nums_len]; exact Nat.le_refl _), List.take_of_length_le (by rw [nums_len]; exact Nat.le_refl _)]
    have hlb : lb (nums s) = s := txt_back s
    rw [rgo_step _ _ _ ⟨by rw [hlen]; omega, by rw [hg]; omega⟩ (by rw [hg]; omega) (by rw [hg, hlen]; omega)]
    rw [hg, Int.toNat_natCast, hd, hlb]
    have ih := rgo_nby r (P ++ ((s.size : Int) :: nums s)) R (out ++ [s]) (fun x hx => hok x (by simp [hx]))
    have e1 : P ++ (nby (s :: r) ++ (0 :: R)) = P ++ ((s.size : Int) :: nums s) ++ (nby r ++ (0 :: R)) := by rw [hf]; simp
    have e2 : (P ++ ((s.size : Int) :: nums s)).length = P.length + 1 + s.size := by simp [nums_len]; omega
    rw [e2] at ih
    rw [e1, ih]
    simp [nby, nums_len]
    omega
/-- A name's bytes are read as the name, whatever stands behind. -/
theorem read_bytes (ss : List ByteArray) (R : List Int) (h : nck ss = 0) : nread ((nbytes ss).1 ++ R) 0 = (ss, (nsz ss : Int), 0) := by
  have hok := (nck_small h).2
  unfold nbytes
  rw [if_pos h]
  unfold nread
  rw [if_neg (by simp; omega)]
  have := rgo_nby ss [] R [] hok
  simp only [List.nil_append, List.length_nil, Nat.zero_add] at this
  have e : nby ss ++ [0] ++ R = nby ss ++ (0 :: R) := by simp
  simp only [e, show (0 : Int).toNat = 0 from rfl, this, h, if_true]
  have := nby_len ss
  simp
  omega
theorem cmp_neg (x y : ByteArray) : cmp y x = - cmp x y := cb_neg _ _
theorem cmp_refl (x : ByteArray) : cmp x x = 0 := cb_refl _
theorem cmp_range (x y : ByteArray) : cmp x y = -1 ∨ cmp x y = 0 ∨ cmp x y = 1 := cb_range _ _
theorem cmp_trans (x y z : ByteArray) (h1 : cmp x y ≤ 0) (h2 : cmp y z ≤ 0) : cmp x z ≤ 0 := cb_trans _ _ _ h1 h2
theorem cmp_left (x y z : ByteArray) (h : cmp x y = 0) : cmp x z = cmp y z := by
  have := cb_zero _ _ h
  unfold cmp at *
  rw [this]
theorem cmp_right (x y z : ByteArray) (h : cmp x y = 0) : cmp z x = cmp z y := by
  have := cb_zero _ _ h
  unfold cmp at *
  rw [this]
theorem cmpR_neg : ∀ a b : List ByteArray, cmpR b a = - cmpR a b
  | [], [] => rfl
  | [], _ :: _ => rfl
  | _ :: _, [] => rfl
  | x :: a, y :: b => by
    unfold cmpR
    have h := cmp_neg x y
    by_cases h0 : cmp x y = 0
    · rw [if_pos h0, if_pos (by omega), cmpR_neg a b]
    · rw [if_neg h0, if_neg (by omega), h]
theorem cmpR_range : ∀ a b : List ByteArray, cmpR a b = -1 ∨ cmpR a b = 0 ∨ cmpR a b = 1
  | [], [] => .inr (.inl rfl)
  | [], _ :: _ => .inl rfl
  | _ :: _, [] => .inr (.inr rfl)
  | x :: a, y :: b => by
    unfold cmpR
    split
    · exact cmpR_range a b
    · exact cmp_range x y
theorem cmpR_trans : ∀ a b c : List ByteArray, cmpR a b ≤ 0 → cmpR b c ≤ 0 → cmpR a c ≤ 0
  | [], _, [] => fun _ _ => by decide
  | [], _, _ :: _ => fun _ _ => by simp [cmpR]
  | _ :: _, [], _ => fun h _ => by simp [cmpR] at h
  | x :: a, y :: b, [] => fun _ h => by simp [cmpR] at h
  | x :: a, y :: b, z :: c => fun h1 h2 => by
    unfold cmpR at h1 h2 ⊢
    by_cases e1 : cmp x y = 0
    · rw [if_pos e1] at h1
      rw [cmp_left x y z e1]
      by_cases e2 : cmp y z = 0
      · rw [if_pos e2] at h2 ⊢
        exact cmpR_trans a b c h1 h2
      · rw [if_neg e2] at h2 ⊢
        exact h2
    · rw [if_neg e1] at h1
      by_cases e2 : cmp y z = 0
      · rw [← cmp_right y z x e2, if_neg e1]
        exact h1
      · rw [if_neg e2] at h2
        have h3 := cmp_trans x y z h1 h2
        by_cases e3 : cmp x z = 0
        · exfalso
          have h4 : cmp x y = cmp z y := cmp_left x z y e3
          have h5 := cmp_neg y z
          omega
        · rw [if_neg e3]; exact h3
theorem comR_same : ∀ a b : List ByteArray, cmpR a b = 0 ↔ (a.length = b.length ∧ comR a b = a.length)
  | [], [] => by simp [cmpR, comR]
  | [], _ :: _ => by simp [cmpR]
  | _ :: _, [] => by simp [cmpR]
  | x :: a, y :: b => by
    unfold cmpR comR
    by_cases h : cmp x y = 0
    · rw [if_pos h, if_pos h, comR_same a b]
      simp
    · rw [if_neg h, if_neg h]
      simp [h]
/-- What is at or under a name is not ahead of it; what stands between is under it, too. -/
theorem under_le : ∀ a b : List ByteArray, comR b a = a.length → cmpR a b ≤ 0
  | [], [], _ => by decide
  | [], _ :: _, _ => by simp [cmpR]
  | _ :: _, [], h => by simp [comR] at h
  | x :: a, y :: b, h => by
    unfold comR at h
    unfold cmpR
    by_cases e : cmp y x = 0
    · rw [if_pos e] at h
      have e' : cmp x y = 0 := by have := cmp_neg y x; omega
      rw [if_pos e']
      exact under_le a b (by simpa using h)
    · rw [if_neg e] at h
      simp at h
theorem under_mid : ∀ a b c : List ByteArray, cmpR a b ≤ 0 → cmpR b c ≤ 0 → comR c a = a.length → comR b a = a.length
  | [], b, _, _, _, _ => by cases b <;> simp [comR]
  | _ :: _, [], _, h, _, _ => by simp [cmpR] at h
  | _ :: _, _ :: _, [], _, h, _ => by simp [cmpR] at h
  | x :: a, y :: b, z :: c, h1, h2, h3 => by
    unfold comR at h3 ⊢
    unfold cmpR at h1 h2
    by_cases e : cmp z x = 0
    · rw [if_pos e] at h3
      have hzx : cmp x z = 0 := by have := cmp_neg z x; omega
      by_cases e1 : cmp x y = 0
      · have e1' : cmp y x = 0 := by have := cmp_neg x y; omega
        rw [if_pos e1] at h1
        have e2 : cmp y z = 0 := by rw [← cmp_left x y z e1]; exact hzx
        rw [if_pos e2] at h2
        rw [if_pos e1']
        simpa using under_mid a b c h1 h2 (by simpa using h3)
      · rw [if_neg e1] at h1
        exfalso
        have h4 : cmp y z = cmp y x := (cmp_right x z y hzx).symm
        have h5 := cmp_neg x y
        have h6 : ¬ cmp y z = 0 := by omega
        rw [if_neg h6] at h2
        omega
    · rw [if_neg e] at h3
      simp at h3
theorem comR_pre : ∀ p q : List ByteArray, comR (p ++ q) p = p.length
  | [], q => by cases q <;> simp [comR]
  | x :: p, q => by
    rw [List.cons_append]
    unfold comR
    rw [if_pos (cmp_refl x), comR_pre p q]
    rfl
theorem under_drop (ss : List ByteArray) (k : Nat) : nunder ss (ss.drop k) = true := by
  unfold nunder ncom
  have e : ss.reverse = (ss.drop k).reverse ++ (ss.take k).reverse := by rw [← List.reverse_append, List.take_append_drop]
  rw [e, comR_pre]
  simp
theorem nck_of {ss : List ByteArray} (h1 : nsz ss ≤ 255) (h2 : labsOk ss) : nck ss = 0 := by
  unfold nck
  rw [if_pos h2, if_neg (by omega)]
theorem nck_take (ss : List ByteArray) (k : Nat) (h : nck ss = 0) : nck (ss.take k) = 0 := by
  have := nck_small h
  exact nck_of (Nat.le_trans (nsz_le ss k) this.1) (fun s hs => this.2 s (List.mem_of_mem_take hs))
theorem nck_drop (ss : List ByteArray) (k : Nat) (h : nck ss = 0) : nck (ss.drop k) = 0 := by
  have := nck_small h
  exact nck_of (Nat.le_trans (nsz_drop ss k) this.1) (fun s hs => this.2 s (List.mem_of_mem_drop hs))
/-- A name is its first labels and its last ones, joined. -/
theorem join_parts (ss : List ByteArray) (k : Nat) (h : nck ss = 0) : njoin (ss.take k) (ss.drop k) = (ss, 0) := by
  unfold njoin
  rw [if_pos (nck_take ss k h), if_pos (nck_drop ss k h), List.take_append_drop, if_pos h]
theorem wild_ok (ss : List ByteArray) (h : nck ss = 0) : njoin [⟨#[42]⟩] ss = if nsz ss ≤ 253 then (⟨#[42]⟩ :: ss, 0) else ([], 5) := by
  have h1 : nck [⟨#[42]⟩] = 0 := by decide
  have hs := nck_small h
  have hz : nsz (⟨#[42]⟩ :: ss) = 2 + nsz ss := rfl
  unfold njoin
  rw [if_pos h1, if_pos h]
  show (if nck (⟨#[42]⟩ :: ss) = 0 then _ else _) = _
  have hok : labsOk (⟨#[42]⟩ :: ss) := by
    intro s hs2
    rcases List.mem_cons.1 hs2 with rfl | hs2
    · decide
    · exact hs.2 s hs2
  by_cases hl : nsz ss ≤ 253
  · rw [if_pos hl, if_pos (nck_of (by omega) hok)]
    rfl
  · rw [if_neg hl, if_neg]
    unfold nck
    rw [if_pos hok, if_pos (by omega)]
    decide
end Go.Proofs.Ytfnpiknobmecbaa
