/- Bytes where no word has begun, in a word, in quotes. -/
import Derived.Test.YtgdkeafjglcgaaaDoorSj
namespace Go.Proofs.YtgdkeafjglcgaaaDoor
open Go.ChangeShapes Go.WideShapes Go.ChangeAt Go.RowKit
set_option linter.unusedVariables false
set_option linter.unusedSimpArgs false


theorem RS.setStartI {B R : Nat} {w0 : Fx} {w : World} {s : ByteArray} {q : Cf} {start : Nat} {wv ev : Value} {wS : World} (h : RS B R w0 w s q start wv ev wS) (k : Nat) (c : List UInt8) (o : Nat) (z : Int) (hz : z = (o : Int)) : RS B R w0 (w.setCell ⟨R, 3, none⟩ (.int .i64 z)) s { q with st := k, cur := c } o wv ev wS := by
  subst hz; exact h.setStart k c o
theorem take_next (s : ByteArray) (p : Nat) (h : p < s.size) : s.data.toList.take (p + 1) = s.data.toList.take p ++ [s[p]] := by
  rw [List.take_succ_eq_append_getElem (by simpa using h)]; rfl
theorem CurS.push {s : ByteArray} {q : Cf} {start p : Nat} (h : CurS s q start p) (hp : p < s.size) (k : Nat) : CurS s { q with st := k, cur := q.cur ++ [s[p]] } start (p + 1) := by
  obtain ⟨h1, h2, h3⟩ := h
  refine ⟨by omega, by omega, ?_⟩
  simp only
  rw [take_next s p hp, List.drop_append_of_le_length (by simp; omega), h3]
theorem CurS.one {s : ByteArray} (q : Cf) {p : Nat} (hp : p < s.size) (k : Nat) : CurS s { q with st := k, cur := [s[p]] } p (p + 1) := by
  refine ⟨by omega, by omega, ?_⟩
  simp only
  rw [take_next s p hp, List.drop_append_of_le_length (by simp; omega), List.drop_of_length_le (by simp; omega)]; rfl
theorem CurS.none {s : ByteArray} (q : Cf) {p : Nat} (hp : p < s.size) (k : Nat) : CurS s { q with st := k, cur := [] } (p + 1) (p + 1) := by
  refine ⟨by omega, by omega, ?_⟩
  simp only
  rw [List.drop_of_length_le (by simp; omega)]
set_option maxRecDepth 100000 in
set_option maxHeartbeats 600000 in
theorem first47 (B R : Nat) (w0 : Fx) (w : World) (s : ByteArray) (q : Cf) (start : Nat) (wv ev : Value) (wS : World) (p : Nat) (h : RS B R w0 w s q start wv ev wS) (hp : p < s.size) (hs : s.size ≤ 1000000) (hl : q.line ≤ 1000000) (ho : q.op ≤ 1000000) (he : q.es.length ≤ 1000000) :
    Calls Tryd.prog 43 #[.pointer (some ⟨R, 0, none⟩), .int .i64 p] w (StP B R w0 s p q.line (firstF q s[p] (s.data.toList.drop (p + 1)))) := by
  have c0 := h.bx.c0
  have c3 := h.bx.c3
  have f3 := h.bx.fz 3
  have hlt := h.bx.lt
  have hp' : (p : Int) < (s.size : Int) := by omega
  have K50 := Lib.hid (fun w => ends50 ((s[p].toNat : Nat) : Int) w)
  have HZ : Hid (endsz ((s[p].toNat : Nat) : Int) = endsW s[p]) := endsz_bI s[p]
  rw [HZ.out] at K50
  have HR := Lib.hid h
  cases hen : endsW s[p] with
  | true =>
    have KO := Lib.hid (outside51 B R w0 w s q start wv ev wS p h hp hs hl ho he)
    have HX : Hid (firstF q s[p] (s.data.toList.drop (p + 1)) = outR q s[p] (s.data.toList.drop (p + 1))) := (by show _ = _; simp [firstF, hen])
    rw [HX.out]
    rw [hen] at K50
    clear h HX HZ hen
    go_enter Tryd.func43, Tryd.ntmps43
    go_wp2_with fail
    refine (K50.out _).mono ?_
    rintro e w1 ⟨rfl, rfl⟩
    go_wp2_with fail
    refine KO.out.mono ?_
    rintro e w2 ⟨k, er, rfl, H2⟩
    go_wp2_with fail
    go_ret2
    exact ⟨k, er, rfl, H2⟩
  | false =>
    rw [hen] at K50
    have HX : Hid (firstF q s[p] (s.data.toList.drop (p + 1)) = if s[p] = 34 then .ok { q with st := 3, cur := [] } else if s[p] = 92 then .ok { q with st := 2, cur := [s[p]] } else .ok { q with st := 1, cur := [s[p]] }) := (by show _ = _; simp [firstF, hen])
    rw [HX.out]
    have n34 := nbz s[p] 34
    have n92 := nbz s[p] 92
    simp only [show ((34 : UInt8).toNat : Int) = 34 from rfl, show ((92 : UInt8).toNat : Int) = 92 from rfl] at n34 n92
    by_cases h34 : s[p] = 34
    · have e' : ((s[p].toNat : Nat) : Int) = 34 := bz s[p] 34 h34
      simp only [e'] at K50
      rw [if_pos h34]
      have HS0 := Lib.hid (h.setStart 0 q.cur p)
      have HS := Lib.hid (HS0.out.setStartI 3 [] (p + 1) ((p : Int) + 1) (by omega))
      have d3 := HS0.out.bx.c3
      have g3 := HS0.out.bx.fz 3
      have HC := Lib.hid (CurS.none (s := s) q hp 3)
      clear h HX HZ hen n34 n92 h34
      go_enter Tryd.func43, Tryd.ntmps43
      go_wp2_with fail
      refine (K50.out _).mono ?_
      rintro e w1 ⟨rfl, rfl⟩
      go_wp2_with fail
      go_ret2
      exact ⟨3, 0, rfl, rfl, rfl, _, _, _, _, HS.out, fun _ => HC.out⟩
    · rw [if_neg h34]
      have m34 := n34 h34
      by_cases h92 : s[p] = 92
      · have e' : ((s[p].toNat : Nat) : Int) = 92 := bz s[p] 92 h92
        simp only [e'] at K50
        rw [if_pos h92]
        have HS := Lib.hid (h.setStart 2 [s[p]] p)
        have HC := Lib.hid (CurS.one (s := s) q hp 2)
        clear h HX HZ hen n34 n92 h34 h92 m34
        go_enter Tryd.func43, Tryd.ntmps43
        go_wp2_with fail
        refine (K50.out _).mono ?_
        rintro e w1 ⟨rfl, rfl⟩
        go_wp2_with fail
        go_ret2
        exact ⟨2, 0, rfl, rfl, rfl, _, _, _, _, HS.out, fun _ => HC.out⟩
      · rw [if_neg h92]
        have m92 := n92 h92
        have HS := Lib.hid (h.setStart 1 [s[p]] p)
        have HC := Lib.hid (CurS.one (s := s) q hp 1)
        clear h HX HZ hen n34 n92 h34 h92
        go_enter Tryd.func43, Tryd.ntmps43
        go_wp2_with fail
        refine (K50.out _).mono ?_
        rintro e w1 ⟨rfl, rfl⟩
        go_wp2_with fail
        go_ret2
        exact ⟨1, 0, rfl, rfl, rfl, _, _, _, _, HS.out, fun _ => HC.out⟩
set_option maxRecDepth 100000 in
set_option maxHeartbeats 600000 in
theorem next48 (B R : Nat) (w0 : Fx) (w : World) (s : ByteArray) (q : Cf) (start : Nat) (wv ev : Value) (wS : World) (p : Nat) (h : RS B R w0 w s q start wv ev wS) (hc : CurS s q start p) (hp : p < s.size) (hs : s.size ≤ 1000000) (hl : q.line ≤ 1000000) (ho : q.op ≤ 1000000) (he : q.es.length ≤ 1000000) (hw : q.ws.length ≤ 64) :
    Calls Tryd.prog 44 #[.pointer (some ⟨R, 0, none⟩), .int .i64 p] w (StP B R w0 s p q.line (nextF q s[p] (s.data.toList.drop (p + 1)))) := by
  have c0 := h.bx.c0
  have hlt := h.bx.lt
  have hp' : (p : Int) < (s.size : Int) := by omega
  have K50 := Lib.hid (fun w => ends50 ((s[p].toNat : Nat) : Int) w)
  have HZ : Hid (endsz ((s[p].toNat : Nat) : Int) = endsW s[p]) := endsz_bI s[p]
  rw [HZ.out] at K50
  have HR := Lib.hid h
  cases hen : endsW s[p] with
  | true =>
    have KK := Lib.hid (keep64 B R w0 w s q start wv ev wS p false h hw hc hs)
    rw [hen] at K50
    cases hk : keepF q false with
    | none =>
      have HX : Hid (nextF q s[p] (s.data.toList.drop (p + 1)) = .er 3) := (by show _ = _; simp [nextF, hen, hk])
      rw [HX.out]
      have HKK := Lib.hid hk
      clear h HX HZ hen hk
      go_enter Tryd.func44, Tryd.ntmps44
      go_wp2_with fail
      refine (K50.out _).mono ?_
      rintro e w1 ⟨rfl, rfl⟩
      go_wp2_with fail
      refine KK.out.mono ?_
      rintro e w2 ⟨er, rfl, H2⟩
      rcases H2.out with ⟨k1, rfl, wv2, ev2, wS2, k3⟩ | ⟨rfl, q', k1, start2, wv2, ev2, k3⟩
      · have H3 := Lib.hid k3
        clear H2 k1 k3
        go_wp2_with fail
        go_ret2
        exact ⟨0, 3, rfl, rfl, _, _, _, _, _, rfl, H3.out⟩
      · exfalso
        rw [HKK.out] at k1; cases k1
    | some q' =>
      have HX : Hid (nextF q s[p] (s.data.toList.drop (p + 1)) = outR q' s[p] (s.data.toList.drop (p + 1))) := (by show _ = _; simp [nextF, hen, hk])
      rw [HX.out]
      have HKK := Lib.hid hk
      have KO : Hid (∀ W start wv ev wS, RS B R w0 W s q' start wv ev wS → Calls Tryd.prog 47 #[.pointer (some ⟨R, 0, none⟩), .int .i64 p] W (StP B R w0 s p q.line (outR q' s[p] (s.data.toList.drop (p + 1))))) := fun W start wv ev wS hW => by
        have h1 := keepF_es hk
        have h2 := keep_line hk
        have := outside51 B R w0 W s q' start wv ev wS p hW hp hs (by omega) (by omega) (by rw [h1.1]; exact he)
        rw [h2] at this; exact this
      clear h HX HZ hen hk
      go_enter Tryd.func44, Tryd.ntmps44
      go_wp2_with fail
      refine (K50.out _).mono ?_
      rintro e w1 ⟨rfl, rfl⟩
      go_wp2_with fail
      refine KK.out.mono ?_
      rintro e w2 ⟨er, rfl, H2⟩
      rcases H2.out with ⟨k1, rfl, wv2, ev2, wS2, k3⟩ | ⟨rfl, q2, k1, wv2, ev2, wS2, k3⟩
      · exfalso
        rw [HKK.out] at k1; cases k1
      · rw [HKK.out] at k1
        cases k1
        have KO2 := Lib.hid (KO.out w2 _ _ _ _ k3)
        clear H2 k3 KO
        go_wp2_with fail
        refine KO2.out.mono ?_
        rintro e w3 ⟨k, er, rfl, H4⟩
        go_wp2_with fail
        go_ret2
        exact ⟨k, er, rfl, H4⟩
  | false =>
    rw [hen] at K50
    have HX : Hid (nextF q s[p] (s.data.toList.drop (p + 1)) = if s[p] = 34 then .er 230 else if s[p] = 92 then .ok { q with st := 2, cur := q.cur ++ [s[p]] } else .ok { q with st := 1, cur := q.cur ++ [s[p]] }) := (by show _ = _; simp [nextF, hen])
    rw [HX.out]
    have n34 := nbz s[p] 34
    have n92 := nbz s[p] 92
    simp only [show ((34 : UInt8).toNat : Int) = 34 from rfl, show ((92 : UInt8).toNat : Int) = 92 from rfl] at n34 n92
    by_cases h34 : s[p] = 34
    · have e' : ((s[p].toNat : Nat) : Int) = 34 := bz s[p] 34 h34
      simp only [e'] at K50
      rw [if_pos h34]
      clear h HX HZ hen n34 n92 h34
      go_enter Tryd.func44, Tryd.ntmps44
      go_wp2_with fail
      refine (K50.out _).mono ?_
      rintro e w1 ⟨rfl, rfl⟩
      go_wp2_with fail
      go_ret2
      exact ⟨0, 230, rfl, rfl, _, _, _, _, _, rfl, HR.out⟩
    · rw [if_neg h34]
      have m34 := n34 h34
      by_cases h92 : s[p] = 92
      · have e' : ((s[p].toNat : Nat) : Int) = 92 := bz s[p] 92 h92
        simp only [e'] at K50
        rw [if_pos h92]
        have HS := Lib.hid (h.setQ 2 (q.cur ++ [s[p]]))
        have HC := Lib.hid (hc.push hp 2)
        clear h HX HZ hen n34 n92 h34 h92 m34 hc
        go_enter Tryd.func44, Tryd.ntmps44
        go_wp2_with fail
        refine (K50.out _).mono ?_
        rintro e w1 ⟨rfl, rfl⟩
        go_wp2_with fail
        go_ret2
        exact ⟨2, 0, rfl, rfl, rfl, _, _, _, _, HS.out, fun _ => HC.out⟩
      · rw [if_neg h92]
        have m92 := n92 h92
        have HS := Lib.hid (h.setQ 1 (q.cur ++ [s[p]]))
        have HC := Lib.hid (hc.push hp 1)
        clear h HX HZ hen n34 n92 h34 h92 hc
        go_enter Tryd.func44, Tryd.ntmps44
        go_wp2_with fail
        refine (K50.out _).mono ?_
        rintro e w1 ⟨rfl, rfl⟩
        go_wp2_with fail
        go_ret2
        exact ⟨1, 0, rfl, rfl, rfl, _, _, _, _, HS.out, fun _ => HC.out⟩
set_option maxRecDepth 100000 in
set_option maxHeartbeats 600000 in
theorem quot49 (B R : Nat) (w0 : Fx) (w : World) (s : ByteArray) (q : Cf) (start : Nat) (wv ev : Value) (wS : World) (p : Nat) (h : RS B R w0 w s q start wv ev wS) (hc : CurS s q start p) (hp : p < s.size) (hs : s.size ≤ 1000000) (hw : q.ws.length ≤ 64) :
    Calls Tryd.prog 45 #[.pointer (some ⟨R, 0, none⟩), .int .i64 p] w (StP B R w0 s p q.line (quotF q s[p])) := by
  have c0 := h.bx.c0
  have hlt := h.bx.lt
  have hp' : (p : Int) < (s.size : Int) := by omega
  have HR := Lib.hid h
  have n34 := nbz s[p] 34
  have n92 := nbz s[p] 92
  simp only [show ((34 : UInt8).toNat : Int) = 34 from rfl, show ((92 : UInt8).toNat : Int) = 92 from rfl] at n34 n92
  by_cases h34 : s[p] = 34
  · have e' : ((s[p].toNat : Nat) : Int) = 34 := bz s[p] 34 h34
    have KK := Lib.hid (keep64 B R w0 w s q start wv ev wS p true h hw hc hs)
    obtain ⟨X, hX⟩ : ∃ X, quotF q s[p] = X := ⟨_, rfl⟩
    have HX : Hid (X = match keepF q true with | none => .er 3 | some q' => .ok { q' with st := 5 }) := (by show _ = _; rw [← hX]; simp only [quotF, h34, if_true]; rfl)
    rw [hX]
    clear h n34 n92 h34 hX
    go_enter Tryd.func45, Tryd.ntmps45
    go_wp2_with fail
    refine KK.out.mono ?_
    rintro e w2 ⟨er, rfl, H2⟩
    have H3 : Hid (StQ B R w0 s p q.line 5 er w2 X) := by
      rw [HX.out]
      rcases H2.out with ⟨k1, rfl, wv2, ev2, wS2, k3⟩ | ⟨rfl, q', k1, start2, wv2, ev2, k3⟩
      · rw [k1]; exact ⟨rfl, _, _, _, _, _, rfl, k3⟩
      · rw [k1]; exact ⟨rfl, rfl, _, _, _, _, k3.setQ 5 q'.cur, by simp⟩
    clear H2
    go_wp2_with fail
    go_ret2
    exact ⟨5, er, rfl, H3⟩
  · have m34 := n34 h34
    by_cases h92 : s[p] = 92
    · have e' : ((s[p].toNat : Nat) : Int) = 92 := bz s[p] 92 h92
      have HX : Hid (quotF q s[p] = .ok { q with st := 4, cur := q.cur ++ [s[p]] }) := (by show _ = _; simp [quotF, h34, h92])
      rw [HX.out]
      have HS := Lib.hid (h.setQ 4 (q.cur ++ [s[p]]))
      have HC := Lib.hid (hc.push hp 4)
      clear h HX n34 n92 h34 h92 hc m34
      go_enter Tryd.func45, Tryd.ntmps45
      go_wp2_with fail
      go_ret2
      exact ⟨4, 0, rfl, rfl, rfl, _, _, _, _, HS.out, fun _ => HC.out⟩
    · have m92 := n92 h92
      have HX : Hid (quotF q s[p] = .ok { q with st := 3, cur := q.cur ++ [s[p]] }) := (by show _ = _; simp [quotF, h34, h92])
      rw [HX.out]
      have HS := Lib.hid (h.setQ 3 (q.cur ++ [s[p]]))
      have HC := Lib.hid (hc.push hp 3)
      clear h HX n34 n92 h34 h92 hc
      go_enter Tryd.func45, Tryd.ntmps45
      go_wp2_with fail
      go_ret2
      exact ⟨3, 0, rfl, rfl, rfl, _, _, _, _, HS.out, fun _ => HC.out⟩
end Go.Proofs.YtgdkeafjglcgaaaDoor
