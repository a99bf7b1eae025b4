/- What is written of data is read as them; data that are read were written so; folded data; their order. No text of the program is used here. -/
import Derived.Test.YtmlccnpondemiaaDsp
namespace Go.Proofs.Ytmlccnpondemiaa
open Go.ChangeShapes Go.WideShapes Go.ChangeAt Go.RowKit
set_option linter.unusedVariables false
set_option linter.unusedSimpArgs false








theorem nsErr_all : ∀ l : List (List ByteArray), nsErr l = 0 ↔ ∀ n ∈ l, nck n = 0
  | [] => by simp [nsErr]
  | n :: r => by
    have ih := nsErr_all r
    unfold nsErr
    by_cases h : nck n = 0
    · rw [if_pos h, ih]; simp [h]
    · rw [if_neg h]; simp [h]
theorem check_parts {t : Nat} {d : Dat} (h : checkF t d = 0) : mayT t = true ∧ fitsB t d = true ∧ (∀ n ∈ d.ns, nck n = 0) ∧ sizesF t d ≤ 65535 := by
  unfold checkF at h
  split at h
  · rename_i h1
    split at h
    · rename_i h2
      split at h
      · rename_i h3
        split at h
        · cases h
        · rename_i h4
          exact ⟨h1, h2, (nsErr_all _).1 h3, by omega⟩
      · rename_i h3; exact absurd h h3
    · cases h
  · cases h
theorem check_of {t : Nat} {d : Dat} (h1 : mayT t = true) (h2 : fitsB t d = true) (h3 : ∀ n ∈ d.ns, nck n = 0) (h4 : sizesF t d ≤ 65535) : checkF t d = 0 := by
  unfold checkF
  rw [if_pos h1, if_pos h2, if_pos ((nsErr_all _).2 h3), if_neg (by omega)]
/-- The fields of data that fit. -/
structure Fit (t : Nat) (d : Dat) : Prop where
  ns : d.ns.length = (shp t).nn
  us : d.us.length = (shp t).nu
  ts : (shp t).nt < 0 ∨ (d.ts.length : Int) = (shp t).nt
  t1 : 0 ≤ (shp t).nt ∨ d.ts.length ≠ 0
  raw : (shp t).nr < 0 ∨ (d.raw.length : Int) = (shp t).nr
  un : ∀ n ∈ d.us, n ≤ most (shp t).wd
  tx : t = 16 → ∀ s ∈ d.ts, s.size ≤ 255
  tg : t = 257 → tagB (d.ts.getD 0 ⟨#[]⟩) = true
theorem fit_iff (t : Nat) (d : Dat) : fitsB t d = true ↔ Fit t d := by
  unfold fitsB
  simp only [Bool.and_eq_true, Bool.or_eq_true, decide_eq_true_eq, List.all_eq_true]
  constructor
  · rintro ⟨⟨⟨⟨⟨⟨⟨a, b⟩, c⟩, e⟩, f⟩, g⟩, h⟩, i⟩
    exact ⟨a, b, c, e, f, g, fun ht => h.resolve_left (fun hn => hn ht), fun ht => i.resolve_left (fun hn => hn ht)⟩
  · rintro ⟨a, b, c, e, f, g, h, i⟩
    refine ⟨⟨⟨⟨⟨⟨⟨a, b⟩, c⟩, e⟩, f⟩, g⟩, ?_⟩, ?_⟩
    · by_cases ht : t = 16
      · exact .inr (h ht)
      · exact .inl ht
    · by_cases ht : t = 257
      · exact .inr (i ht)
      · exact .inl ht
theorem len0 {α : Type} {l : List α} (h : l.length = 0) : l = [] := List.eq_nil_of_length_eq_zero h
theorem len1 {α : Type} {l : List α} (h : l.length = 1) : ∃ a, l = [a] := List.length_eq_one_iff.1 h
theorem len2 {α : Type} {l : List α} (h : l.length = 2) : ∃ a b, l = [a, b] := by
  match l, h with
  | [a, b], _ => exact ⟨a, b, rfl⟩
theorem len3 {α : Type} {l : List α} (h : l.length = 3) : ∃ a b c, l = [a, b, c] := by
  match l, h with
  | [a, b, c], _ => exact ⟨a, b, c, rfl⟩
theorem len5 {α : Type} {l : List α} (h : l.length = 5) : ∃ a b c e f, l = [a, b, c, e, f] := by
  match l, h with
  | [a, b, c, e, f], _ => exact ⟨a, b, c, e, f, rfl⟩
/-- The eleven ways of a type. -/
theorem shp_cases (t : Nat) : (t = 1 ∧ shp t = ⟨0, 0, 0, 4, 0⟩) ∨ (t = 28 ∧ shp t = ⟨0, 0, 0, 16, 0⟩) ∨ ((t = 2 ∨ t = 5 ∨ t = 12) ∧ shp t = ⟨1, 0, 0, 0, 0⟩) ∨ (t = 6 ∧ shp t = ⟨2, 5, 0, 0, 4⟩) ∨ (t = 15 ∧ shp t = ⟨1, 1, 0, 0, 2⟩) ∨ (t = 33 ∧ shp t = ⟨1, 3, 0, 0, 2⟩) ∨ (t = 16 ∧ shp t = ⟨0, 0, -1, 0, 0⟩) ∨ (t = 257 ∧ shp t = ⟨0, 1, 2, 0, 1⟩) ∨
    ((t ≠ 1 ∧ t ≠ 28 ∧ t ≠ 2 ∧ t ≠ 5 ∧ t ≠ 12 ∧ t ≠ 6 ∧ t ≠ 15 ∧ t ≠ 33 ∧ t ≠ 16 ∧ t ≠ 257) ∧ shp t = ⟨0, 0, 0, -1, 0⟩) := by
  by_cases h1 : t = 1
  · subst h1; left; exact ⟨rfl, rfl⟩
  by_cases h2 : t = 28
  · subst h2; right; left; exact ⟨rfl, rfl⟩
  by_cases h3 : t = 2 ∨ t = 5 ∨ t = 12
  · right; right; left; refine ⟨h3, ?_⟩; rcases h3 with rfl | rfl | rfl <;> rfl
  by_cases h4 : t = 6
  · subst h4; right; right; right; left; exact ⟨rfl, rfl⟩
  by_cases h5 : t = 15
  · subst h5; right; right; right; right; left; exact ⟨rfl, rfl⟩
  by_cases h6 : t = 33
  · subst h6; right; right; right; right; right; left; exact ⟨rfl, rfl⟩
  by_cases h7 : t = 16
  · subst h7; right; right; right; right; right; right; left; exact ⟨rfl, rfl⟩
  by_cases h8 : t = 257
  · subst h8; right; right; right; right; right; right; right; left; exact ⟨rfl, rfl⟩
  · right; right; right; right; right; right; right; right
    refine ⟨⟨h1, h2, fun e => h3 (.inl e), fun e => h3 (.inr (.inl e)), fun e => h3 (.inr (.inr e)), h4, h5, h6, h7, h8⟩, ?_⟩
    unfold shp
    rw [if_neg h1, if_neg h2, if_neg h3, if_neg h4, if_neg h5, if_neg h6, if_neg h7, if_neg h8]
theorem guess_write (t : Nat) (d : Dat) (h : checkF t d = 0) : guessF t (writeF t d) = some d := by
  obtain ⟨h1, h2, h3, h4⟩ := check_parts h
  have hf := (fit_iff t d).1 h2
  obtain ⟨ns, us, ts, raw⟩ := d
  obtain ⟨fns, fus, fts, ft1, fraw, fun_, ftx, ftg⟩ := hf
  simp only at fns fus fts ft1 fraw fun_ ftx ftg h3
  rcases shp_cases t with ⟨rfl, e⟩ | ⟨rfl, e⟩ | ⟨ht, e⟩ | ⟨rfl, e⟩ | ⟨rfl, e⟩ | ⟨rfl, e⟩ | ⟨rfl, e⟩ | ⟨rfl, e⟩ | ⟨ht, e⟩ <;> rw [e] at fns fus fts ft1 fraw fun_ <;> simp only at fns fus fts ft1 fraw fun_
  · obtain rfl := len0 fns
    obtain rfl := len0 fus
    obtain rfl := len0 (l := ts) (by omega)
    simp [guessF, writeF, e, tsB]
  · obtain rfl := len0 fns
    obtain rfl := len0 fus
    obtain rfl := len0 (l := ts) (by omega)
    simp [guessF, writeF, e, tsB]
  · obtain ⟨n, rfl⟩ := len1 fns
    obtain rfl := len0 fus
    obtain rfl := len0 (l := ts) (by omega)
    obtain rfl := len0 (l := raw) (by omega)
    have hg := gName_at [] [] n (h3 n (by simp))
    simp only [List.nil_append, List.length_nil, List.append_nil] at hg
    have h6 : t ≠ 6 := by rcases ht with rfl | rfl | rfl <;> decide
    have hw : writeF t ⟨[n], [], [], []⟩ = nmB n := by
      unfold writeF tsB
      rw [if_neg h6]
      split <;> simp [nby]
    rw [hw]
    unfold guessF
    rw [if_neg h6, e]
    simp [hg]
  · obtain ⟨n, m, rfl⟩ := len2 fns
    obtain ⟨a, b, c, x, y, rfl⟩ := len5 fus
    obtain rfl := len0 (l := ts) (by omega)
    obtain rfl := len0 (l := raw) (by omega)
    have hb : ∀ z ∈ [a, b, c, x, y], z ≤ 4294967295 := fun_
    have hw : writeF 6 ⟨[n, m], [a, b, c, x, y], [], []⟩ = nmB n ++ (nmB m ++ (numB a 4 ++ (numB b 4 ++ (numB c 4 ++ (numB x 4 ++ (numB y 4 ++ [])))))) := by simp [writeF]
    rw [hw]
    have g1 := gName_at [] (nmB m ++ (numB a 4 ++ (numB b 4 ++ (numB c 4 ++ (numB x 4 ++ (numB y 4 ++ [])))))) n (h3 n (by simp))
    have g2 := gName_at (nmB n) (numB a 4 ++ (numB b 4 ++ (numB c 4 ++ (numB x 4 ++ (numB y 4 ++ []))))) m (h3 m (by simp))
    have l1 := nmB_len n
    have l2 := nmB_len m
    have na := numB_len a 4 (by simp)
    have nb := numB_len b 4 (by simp)
    have nc := numB_len c 4 (by simp)
    have nx := numB_len x 4 (by simp)
    have ny := numB_len y 4 (by simp)
    have k1 := gNum_at (nmB n ++ nmB m) (numB b 4 ++ (numB c 4 ++ (numB x 4 ++ (numB y 4 ++ [])))) a 4 (nsz n + nsz m) (.inr (.inr ⟨rfl, hb a (by simp)⟩)) (by simp [l1, l2])
    have k2 := gNum_at (nmB n ++ nmB m ++ numB a 4) (numB c 4 ++ (numB x 4 ++ (numB y 4 ++ []))) b 4 (nsz n + nsz m + 4) (.inr (.inr ⟨rfl, hb b (by simp)⟩)) (by simp only [List.length_append, l1, l2, na])
    have k3 := gNum_at (nmB n ++ nmB m ++ numB a 4 ++ numB b 4) (numB x 4 ++ (numB y 4 ++ [])) c 4 (nsz n + nsz m + 8) (.inr (.inr ⟨rfl, hb c (by simp)⟩)) (by simp only [List.length_append, l1, l2, na, nb])
    have k4 := gNum_at (nmB n ++ nmB m ++ numB a 4 ++ numB b 4 ++ numB c 4) (numB y 4 ++ []) x 4 (nsz n + nsz m + 12) (.inr (.inr ⟨rfl, hb x (by simp)⟩)) (by simp only [List.length_append, l1, l2, na, nb, nc])
    have k5 := gNum_at (nmB n ++ nmB m ++ numB a 4 ++ numB b 4 ++ numB c 4 ++ numB x 4) [] y 4 (nsz n + nsz m + 16) (.inr (.inr ⟨rfl, hb y (by simp)⟩)) (by simp only [List.length_append, l1, l2, na, nb, nc, nx])
    simp only [List.append_assoc] at k1 k2 k3 k4 k5
    simp only [List.nil_append, List.length_nil, Nat.zero_add] at g1
    rw [l1] at g2
    unfold guessF
    rw [if_pos rfl, g1]
    simp only [Option.bind_some]
    rw [g2]
    simp only [Option.bind_some]
    rw [if_pos (by simp [l1, l2, na, nb, nc, nx, ny]; omega), k1, k2, k3, k4, k5]
  · obtain ⟨n, rfl⟩ := len1 fns
    obtain ⟨a, rfl⟩ := len1 fus
    obtain rfl := len0 (l := ts) (by omega)
    obtain rfl := len0 (l := raw) (by omega)
    have hb : ∀ z ∈ [a], z ≤ 65535 := fun_
    have hw : writeF 15 ⟨[n], [a], [], []⟩ = numB a 2 ++ (nmB n ++ []) := by simp [writeF, e, tsB]
    rw [hw]
    have na := numB_len a 2 (by simp)
    have g1 := gName_at (numB a 2) [] n (h3 n (by simp))
    have k1 := gNum_at [] (nmB n ++ []) a 2 0 (.inr (.inl ⟨rfl, hb a (by simp)⟩)) rfl
    rw [na] at g1
    simp only [List.nil_append] at k1
    unfold guessF
    rw [if_neg (by decide), e]
    simp only [if_true]
    rw [if_pos (by simp [na]), show 1 * 2 = 2 from rfl, g1]
    simp [List.range_succ]
    simpa using k1
  · obtain ⟨n, rfl⟩ := len1 fns
    obtain ⟨a, b, c, rfl⟩ := len3 fus
    obtain rfl := len0 (l := ts) (by omega)
    obtain rfl := len0 (l := raw) (by omega)
    have hb : ∀ z ∈ [a, b, c], z ≤ 65535 := fun_
    have hw : writeF 33 ⟨[n], [a, b, c], [], []⟩ = numB a 2 ++ (numB b 2 ++ (numB c 2 ++ (nmB n ++ []))) := by simp [writeF, e, tsB]
    rw [hw]
    have na := numB_len a 2 (by simp)
    have nb := numB_len b 2 (by simp)
    have nc := numB_len c 2 (by simp)
    have g1 := gName_at (numB a 2 ++ numB b 2 ++ numB c 2) [] n (h3 n (by simp))
    have k1 := gNum_at [] (numB b 2 ++ (numB c 2 ++ (nmB n ++ []))) a 2 0 (.inr (.inl ⟨rfl, hb a (by simp)⟩)) rfl
    have k2 := gNum_at (numB a 2) (numB c 2 ++ (nmB n ++ [])) b 2 2 (.inr (.inl ⟨rfl, hb b (by simp)⟩)) (by rw [na])
    have k3 := gNum_at (numB a 2 ++ numB b 2) (nmB n ++ []) c 2 4 (.inr (.inl ⟨rfl, hb c (by simp)⟩)) (by simp [na, nb])
    simp only [List.append_assoc, List.length_append, na, nb, nc, List.nil_append] at g1 k1 k2 k3
    unfold guessF
    rw [if_neg (by decide), e]
    simp only [if_true]
    rw [if_pos (by simp [na, nb, nc]; omega), show 3 * 2 = 2 + (2 + 2) from rfl, g1]
    simp only [Option.map_some]
    rw [show List.range 3 = [0, 1, 2] from rfl]
    simp only [List.map_cons, List.map_nil, Nat.zero_mul, Nat.one_mul]
    rw [k1, k2, show 2 * 2 = 4 from rfl, k3]
  · obtain rfl := len0 fns
    obtain rfl := len0 fus
    obtain rfl := len0 (l := raw) (by omega)
    have hw : writeF 16 ⟨[], [], ts, []⟩ = nby ts := by simp [writeF, tsB]
    have g1 := gTexts_at ts []
    simp only [List.nil_append, List.length_nil] at g1
    rw [hw]
    unfold guessF
    rw [if_neg (by decide), e]
    simp [g1]
  · obtain rfl := len0 fns
    obtain ⟨a, rfl⟩ := len1 fus
    obtain ⟨s, u, rfl⟩ := len2 (l := ts) (by omega)
    obtain rfl := len0 (l := raw) (by omega)
    have hb : ∀ z ∈ [a], z ≤ 255 := fun_
    have hw : writeF 257 ⟨[], [a], [s, u], []⟩ = (a : Int) :: (s.size : Int) :: (nums s ++ nums u) := by simp [writeF, e, tsB, numB]
    rw [hw]
    have hl : ((a : Int) :: (s.size : Int) :: (nums s ++ nums u)).length = 2 + (s.size + u.size) := by simp [nums_len]; omega
    have hd : ((a : Int) :: (s.size : Int) :: (nums s ++ nums u)).getD 1 0 = (s.size : Int) := rfl
    unfold guessF
    rw [if_neg (by decide), e, if_neg (by decide), if_neg (by decide), if_pos rfl, hd, Int.toNat_natCast, hl, if_pos ⟨by omega, by omega⟩]
    have d1 : (((a : Int) :: (s.size : Int) :: (nums s ++ nums u)).drop 2).take s.size = nums s := by
      show (nums s ++ nums u).take s.size = nums s
      rw [List.take_append_of_le_length (by rw [nums_len]; exact Nat.le_refl _), List.take_of_length_le (by rw [nums_len]; exact Nat.le_refl _)]
    have d2 : ((a : Int) :: (s.size : Int) :: (nums s ++ nums u)).drop (2 + s.size) = nums u := by
      rw [Nat.add_comm]
      show (nums s ++ nums u).drop s.size = nums u
      rw [List.drop_append_of_le_length (by rw [nums_len]; exact Nat.le_refl _), List.drop_eq_nil_of_le (by rw [nums_len]; exact Nat.le_refl _), List.nil_append]
    have d3 : gNum ((a : Int) :: (s.size : Int) :: (nums s ++ nums u)) 0 1 = a := by simp [gNum, val]
    rw [d1, d2, d3, show lb (nums s) = s from txt_back s, show lb (nums u) = u from txt_back u]
  · obtain rfl := len0 fns
    obtain rfl := len0 fus
    obtain rfl := len0 (l := ts) (by omega)
    have hw : writeF t ⟨[], [], [], raw⟩ = raw := by
      unfold writeF tsB
      rw [if_neg ht.2.2.2.2.2.1, if_neg ht.2.2.2.2.2.2.2.2.1]
      simp
    rw [hw]
    unfold guessF
    rw [if_neg ht.2.2.2.2.2.1, e, if_neg (by decide), if_neg ht.2.2.2.2.2.2.2.2.1, if_neg ht.2.2.2.2.2.2.2.2.2]
theorem read_write (t : Nat) (d : Dat) (h : checkF t d = 0) : dreadF t (writeF t d) = some d := by
  unfold dreadF
  rw [guess_write t d h]
  simp [h]
theorem write_read {t : Nat} {b : List Int} {d : Dat} (h : dreadF t b = some d) : checkF t d = 0 ∧ writeF t d = b := by
  unfold dreadF at h
  cases hg : guessF t b with
  | none => rw [hg] at h; cases h
  | some x =>
    rw [hg] at h
    simp only [Option.bind_some] at h
    split at h
    · rename_i hc; cases h; exact hc
    · cases h
/-- Whatever reads so reads as the document. -/
theorem read_unique {t : Nat} {b : List Int} {o : Option Dat} (h1 : ∀ d, o = some d → checkF t d = 0 ∧ writeF t d = b) (h2 : o = none → ∀ d, checkF t d = 0 → writeF t d ≠ b) : o = dreadF t b := by
  cases ho : o with
  | none =>
    cases hd : dreadF t b with
    | none => rfl
    | some d => exact absurd (write_read hd).2 (h2 ho d (write_read hd).1)
  | some d =>
    obtain ⟨a, e⟩ := h1 d ho
    rw [← e, read_write t d a]
end Go.Proofs.Ytmlccnpondemiaa
