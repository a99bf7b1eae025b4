/- What reading a name out of octets comes to. -/
import Derived.Test.YtkbpjaojgkpffaaOcc
namespace Go.Proofs.Ytkbpjaojgkpffaa
open Go.ChangeShapes Go.WideShapes Go.ChangeAt Go.RowKit
set_option linter.unusedVariables false
set_option linter.unusedSimpArgs false

/-- The labels that a reader reads from a place on, and its place behind them; none, if it is bad. -/
def pgo (l : List Int) (p : Nat) (out : List ByteArray) : List ByteArray × Option Nat :=
  if h : p < l.length then
    if l.getD p 0 ≤ 0 then (out, some (p + 1))
    else if (p : Int) + 1 + l.getD p 0 ≤ l.length then pgo l (p + 1 + (l.getD p 0).toNat) (out ++ [lb ((l.drop (p + 1)).take (l.getD p 0).toNat)])
    else (out ++ [lb []], none)
  else (out, none)
termination_by l.length - p
decreasing_by omega
/-- The same, when a length has been read already. -/
def aft (l : List Int) (st : Option Nat) (z : Int) (out : List ByteArray) : List ByteArray × Option Nat :=
  if z ≤ 0 then (out, st) else match st with
    | none => (out, none)
    | some p => if (p : Int) + z ≤ l.length then pgo l (p + z.toNat) (out ++ [lb ((l.drop p).take z.toNat)]) else (out ++ [lb []], none)
theorem take_one (l : List Int) (p : Nat) (h : p < l.length) : (l.drop p).take 1 = [l.getD p 0] := by
  rw [List.drop_eq_getElem_cons h, List.getD_eq_getElem?_getD, List.getElem?_eq_getElem h]
  rfl
theorem nb_in (l : List Int) (p : Nat) (h : p < l.length) : tk l (some p) 1 = [l.getD p 0] ∧ mv l.length (some p) 1 = some (p + 1) ∧ val (tk l (some p) 1) = l.getD p 0 := by
  have e : tk l (some p) 1 = [l.getD p 0] := by
    unfold tk
    simp only
    rw [if_pos ⟨by omega, by omega⟩]
    exact take_one l p h
  refine ⟨e, ?_, by rw [e]; simp [val]⟩
  unfold mv
  simp only
  rw [if_pos ⟨by omega, by omega⟩]
  rfl
theorem nb_out (l : List Int) (p : Nat) (h : ¬ p < l.length) : tk l (some p) 1 = [] ∧ mv l.length (some p) 1 = none ∧ val (tk l (some p) 1) = 0 := by
  have e : tk l (some p) 1 = [] := by
    unfold tk
    simp only
    rw [if_neg (by omega)]
  refine ⟨e, ?_, by rw [e]; rfl⟩
  unfold mv
  simp only
  rw [if_neg (by omega)]
theorem pgo_aft (l : List Int) (p : Nat) (out : List ByteArray) : pgo l p out = aft l (mv l.length (some p) 1) (val (tk l (some p) 1)) out := by
  by_cases h : p < l.length
  · obtain ⟨_, e2, e3⟩ := nb_in l p h
    rw [e2, e3, pgo, dif_pos h]
    unfold aft
    by_cases hz : l.getD p 0 ≤ 0
    · rw [if_pos hz, if_pos hz]
    · rw [if_neg hz, if_neg hz]
      simp only [Int.natCast_add, Int.natCast_one]
  · obtain ⟨_, e2, e3⟩ := nb_out l p h
    rw [e2, e3, pgo, dif_neg h]
    rfl
theorem aft_step (l : List Int) (p : Nat) (z : Int) (out : List ByteArray) (hz : 0 < z) : aft l (some p) z out = aft l (mv l.length (mv l.length (some p) z) 1) (val (tk l (mv l.length (some p) z) 1)) (out ++ [lb (tk l (some p) z)]) := by
  by_cases hf : (p : Int) + z ≤ l.length
  · have e1 : mv l.length (some p) z = some (p + z.toNat) := by unfold mv; simp only; rw [if_pos ⟨by omega, hf⟩]
    have e2 : tk l (some p) z = (l.drop p).take z.toNat := by unfold tk; simp only; rw [if_pos ⟨by omega, hf⟩]
    rw [e1, e2, ← pgo_aft]
    unfold aft
    rw [if_neg (by omega)]
    simp only
    rw [if_pos hf]
  · have e1 : mv l.length (some p) z = none := by unfold mv; simp only; rw [if_neg (by omega)]
    have e2 : tk l (some p) z = [] := by unfold tk; simp only; rw [if_neg (by omega)]
    rw [e1, e2]
    unfold aft
    rw [if_neg (by omega)]
    simp only
    rw [if_neg hf]
    rfl
/-- What a length that has been read says of the reader. -/
theorem nb_pos (l : List Int) (st : Option Nat) (h : 0 < val (tk l st 1)) : ∃ p, st = some p ∧ mv l.length st 1 = some (p + 1) ∧ p < l.length := by
  cases st with
  | none => simp [tk, val] at h
  | some p =>
    by_cases hp : p < l.length
    · exact ⟨p, rfl, (nb_in l p hp).2.1, hp⟩
    · rw [(nb_out l p hp).2.2] at h; omega
theorem nb_bd (l : List Int) (hb : ∀ z ∈ l, 0 ≤ z ∧ z ≤ 255) (st : Option Nat) : 0 ≤ val (tk l st 1) ∧ val (tk l st 1) ≤ 255 := by
  cases st with
  | none => simp [tk, val]
  | some p =>
    by_cases hp : p < l.length
    · rw [(nb_in l p hp).2.2]; exact getD_bd l hb p
    · rw [(nb_out l p hp).2.2]; omega

theorem pgo_pre (l : List Int) : ∀ (n p : Nat) (out : List ByteArray), l.length - p ≤ n → ∃ r, (pgo l p out).1 = out ++ r
  | n, p, out, hn => by
    rw [pgo]
    by_cases h : p < l.length
    · rw [dif_pos h]
      by_cases hz : l.getD p 0 ≤ 0
      · rw [if_pos hz]; exact ⟨[], by simp⟩
      · rw [if_neg hz]
        by_cases hf : (p : Int) + 1 + l.getD p 0 ≤ l.length
        · rw [if_pos hf]
          cases n with
          | zero => omega
          | succ n =>
            obtain ⟨r, hr⟩ := pgo_pre l n (p + 1 + (l.getD p 0).toNat) (out ++ [lb ((l.drop (p + 1)).take (l.getD p 0).toNat)]) (by omega)
            exact ⟨_ :: r, by rw [hr, List.append_assoc]; rfl⟩
        · rw [if_neg hf]; exact ⟨_, rfl⟩
    · rw [dif_neg h]; exact ⟨[], by simp⟩
theorem rgo_pre (l : List Int) : ∀ (n p : Nat) (out o : List ByteArray) (q : Nat), l.length - p ≤ n → rgo l p out = some (o, q) → ∃ r, o = out ++ r
  | n, p, out, o, q, hn, hr => by
    by_cases h : p < l.length ∧ l.getD p 0 ≤ 63
    · by_cases h0 : l.getD p 0 = 0
      · rw [rgo_zero l p out h h0] at hr
        cases hr
        exact ⟨[], by simp⟩
      · by_cases h1 : (l.length : Int) - ((p : Int) + 1) < l.getD p 0
        · rw [rgo_short l p out h h0 h1] at hr; cases hr
        · rw [rgo_step l p out h h0 h1] at hr
          cases n with
          | zero => omega
          | succ n =>
            obtain ⟨r, hr⟩ := rgo_pre l n _ _ o q (by omega) hr
            exact ⟨_ :: r, by rw [hr, List.append_assoc]; rfl⟩
    · rw [rgo_end l p out h] at hr; cases hr

/-- The bytes that the reader is given: from d on, at most 255. -/
def win (zs : List Int) (d : Nat) : List Int := (zs.drop d).take 255
theorem win_len (zs : List Int) (d : Nat) : (win zs d).length = min 255 (zs.length - d) := by simp [win]
theorem win_at (zs : List Int) (d p : Nat) (h : p < (win zs d).length) : (win zs d).getD p 0 = zs.getD (d + p) 0 := by
  rw [win_len] at h
  simp only [win, List.getD_eq_getElem?_getD]
  rw [List.getElem?_take, if_pos (by omega), List.getElem?_drop]
theorem win_cut (zs : List Int) (d p n : Nat) (h : p + n ≤ (win zs d).length) : ((win zs d).drop p).take n = (zs.drop (d + p)).take n := by
  rw [win_len] at h
  apply List.ext_getElem?
  intro i
  simp only [win, List.getElem?_take, List.getElem?_drop]
  by_cases hi : i < n
  · rw [if_pos hi, if_pos hi, if_pos (by omega), Nat.add_assoc]
  · rw [if_neg hi, if_neg hi]

theorem pgo_rgo (zs : List Int) (hb : ∀ z ∈ zs, 0 ≤ z ∧ z ≤ 255) (d : Nat) : ∀ (n p q : Nat) (out o : List ByteArray), (win zs d).length - p ≤ n → pgo (win zs d) p out = (o, some q) → nck o = 0 → rgo zs (d + p) out = some (o, d + q)
  | n, p, q, out, o, hn, hp, hk => by
    rw [pgo] at hp
    by_cases h : p < (win zs d).length
    · rw [dif_pos h, win_at zs d p h] at hp
      have hl := win_len zs d
      have hbd := getD_bd zs hb (d + p)
      by_cases hz : zs.getD (d + p) 0 ≤ 0
      · rw [if_pos hz] at hp
        cases hp
        rw [rgo_zero zs (d + p) out ⟨by omega, by omega⟩ (by omega)]
        rfl
      · rw [if_neg hz] at hp
        by_cases hf : (p : Int) + 1 + zs.getD (d + p) 0 ≤ (win zs d).length
        · rw [if_pos hf] at hp
          have hsz : (lb (((win zs d).drop (p + 1)).take (zs.getD (d + p) 0).toNat)).size = (zs.getD (d + p) 0).toNat := by
            rw [lb_size, List.length_take, List.length_drop]; omega
          have hmem : lb (((win zs d).drop (p + 1)).take (zs.getD (d + p) 0).toNat) ∈ o := by
            obtain ⟨r, hr⟩ := pgo_pre (win zs d) (win zs d).length (p + 1 + (zs.getD (d + p) 0).toNat) (out ++ [lb (((win zs d).drop (p + 1)).take (zs.getD (d + p) 0).toNat)]) (by omega)
            rw [hp] at hr
            simp only at hr
            rw [hr]
            simp
          have h63 := chk_ok ((nck_small hk).2 _ hmem)
          rw [hsz] at h63
          cases n with
          | zero => omega
          | succ n =>
            have := pgo_rgo zs hb d n _ q _ o (by omega) hp hk
            rw [rgo_step zs (d + p) out ⟨by omega, by omega⟩ (by omega) (by omega)]
            rw [win_cut zs d (p + 1) _ (by omega), show d + (p + 1 + (zs.getD (d + p) 0).toNat) = d + p + 1 + (zs.getD (d + p) 0).toNat by omega, show d + (p + 1) = d + p + 1 by omega] at this
            exact this
        · rw [if_neg hf] at hp
          cases hp
    · rw [dif_neg h] at hp
      cases hp
theorem rgo_pgo (zs : List Int) (hb : ∀ z ∈ zs, 0 ≤ z ∧ z ≤ 255) (d : Nat) : ∀ (n p Q : Nat) (out o : List ByteArray), zs.length - (d + p) ≤ n → rgo zs (d + p) out = some (o, Q) → nck o = 0 → nsz out = p + 1 → ∃ q, pgo (win zs d) p out = (o, some q) ∧ Q = d + q
  | n, p, Q, out, o, hn, hr, hk, hs => by
    have hl := win_len zs d
    have hbd := getD_bd zs hb (d + p)
    obtain ⟨r, hpre⟩ := rgo_pre zs zs.length (d + p) out o Q (by omega) hr
    have ho := (nck_small hk).1
    have hle : nsz out ≤ nsz o := by rw [hpre]; have := nsz_append out r; have := nsz_len r; omega
    by_cases h : d + p < zs.length ∧ zs.getD (d + p) 0 ≤ 63
    · have hw : p < (win zs d).length := by omega
      by_cases h0 : zs.getD (d + p) 0 = 0
      · rw [rgo_zero zs (d + p) out h h0] at hr
        cases hr
        refine ⟨p + 1, ?_, rfl⟩
        rw [pgo, dif_pos hw, win_at zs d p hw, if_pos (by omega)]
      · by_cases h1 : (zs.length : Int) - (((d + p : Nat) : Int) + 1) < zs.getD (d + p) 0
        · rw [rgo_short zs (d + p) out h h0 h1] at hr; cases hr
        · rw [rgo_step zs (d + p) out h h0 h1] at hr
          have hsz : (lb ((zs.drop (d + p + 1)).take (zs.getD (d + p) 0).toNat)).size = (zs.getD (d + p) 0).toNat := by
            rw [lb_size, List.length_take, List.length_drop]; omega
          have hs2 : nsz (out ++ [lb ((zs.drop (d + p + 1)).take (zs.getD (d + p) 0).toNat)]) = (p + 1 + (zs.getD (d + p) 0).toNat) + 1 := by
            rw [nsz_snoc, hsz, hs]
          obtain ⟨r2, hpre2⟩ := rgo_pre zs zs.length _ _ o Q (by omega) hr
          have hle2 : nsz (out ++ [lb ((zs.drop (d + p + 1)).take (zs.getD (d + p) 0).toNat)]) ≤ nsz o := by rw [hpre2]; have := nsz_append (out ++ [lb ((zs.drop (d + p + 1)).take (zs.getD (d + p) 0).toNat)]) r2; have := nsz_len r2; omega
          have hf : (p : Int) + 1 + zs.getD (d + p) 0 ≤ (win zs d).length := by omega
          cases n with
          | zero => omega
          | succ n =>
            rw [show d + p + 1 + (zs.getD (d + p) 0).toNat = d + (p + 1 + (zs.getD (d + p) 0).toNat) by omega] at hr
            obtain ⟨q, hq, hQ⟩ := rgo_pgo zs hb d n (p + 1 + (zs.getD (d + p) 0).toNat) Q _ o (by omega) hr hk hs2
            refine ⟨q, ?_, hQ⟩
            rw [pgo, dif_pos hw, win_at zs d p hw, if_neg (by omega), if_pos hf, win_cut zs d (p + 1) _ (by omega), show d + (p + 1) = d + p + 1 by omega]
            exact hq
    · rw [rgo_end zs (d + p) out h] at hr; cases hr
/-- What Read answers, by what its reader comes to. -/
theorem nread_pgo (zs : List Int) (hb : ∀ z ∈ zs, 0 ≤ z ∧ z ≤ 255) (d : Nat) (hd : d < zs.length) : nread zs (d : Int) = match pgo (win zs d) 0 [] with
    | (_, none) => ([], 0, 8)
    | (out, some q) => if nck out = 0 then (out, ((d + q : Nat) : Int), 0) else ([], 0, 8) := by
  unfold nread
  rw [if_neg (by omega), Int.toNat_natCast]
  cases hp : pgo (win zs d) 0 [] with
  | mk o st =>
    have back : ∀ (o2 : List ByteArray) (Q : Nat), rgo zs d [] = some (o2, Q) → nck o2 = 0 → ∃ q, pgo (win zs d) 0 [] = (o2, some q) ∧ Q = d + q := fun o2 Q h hk => rgo_pgo zs hb d zs.length 0 Q [] o2 (by omega) h hk (by simp [nsz])
    cases st with
    | none =>
      simp only
      cases hr : rgo zs d [] with
      | none => rfl
      | some x =>
        obtain ⟨o2, Q⟩ := x
        simp only
        by_cases hk : nck o2 = 0
        · obtain ⟨q, h1, _⟩ := back o2 Q hr hk
          rw [hp] at h1
          cases h1
        · rw [if_neg hk]
    | some q =>
      simp only
      by_cases hk : nck o = 0
      · have := pgo_rgo zs hb d (win zs d).length 0 q [] o (by omega) hp hk
        rw [Nat.add_zero] at this
        rw [this]
      · rw [if_neg hk]
        cases hr : rgo zs d [] with
        | none => rfl
        | some x =>
          obtain ⟨o2, Q⟩ := x
          simp only
          by_cases hk2 : nck o2 = 0
          · obtain ⟨q2, h1, _⟩ := back o2 Q hr hk2
            rw [hp] at h1
            cases h1
            exact absurd hk2 hk
          · rw [if_neg hk2]
end Go.Proofs.Ytkbpjaojgkpffaa
