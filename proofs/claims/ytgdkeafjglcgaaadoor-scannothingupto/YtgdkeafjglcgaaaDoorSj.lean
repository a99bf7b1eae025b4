/- A byte that is no word's; bytes where no word has begun, in a word, in quotes. -/
import Derived.Test.YtgdkeafjglcgaaaDoorSi
namespace Go.Proofs.YtgdkeafjglcgaaaDoor
open Go.ChangeShapes Go.WideShapes Go.ChangeAt Go.RowKit
set_option linter.unusedVariables false
set_option linter.unusedSimpArgs false


/-- What a step comes to. -/
def StQ (B R : Nat) (w0 : Fx) (s : ByteArray) (p : Nat) (ln : Nat) (k er : Nat) (w' : World) : Rs → Prop
  | .ok q' => k = q'.st ∧ er = 0 ∧ ∃ start wv ev wS, RS B R w0 w' s q' start wv ev wS ∧ ((q'.st = 1 ∨ q'.st = 2 ∨ q'.st = 3 ∨ q'.st = 4) → CurS s q' start (p + 1))
  | .er n => er = n ∧ ∃ q' start wv ev wS, q'.line = ln ∧ RS B R w0 w' s q' start wv ev wS
def StP (B R : Nat) (w0 : Fx) (s : ByteArray) (p : Nat) (ln : Nat) (r : Rs) (e : Ending) (w' : World) : Prop :=
  ∃ k er : Nat, e = .returned (.tuple #[.int .u8 k, .int .i64 er]) ∧ Hid (StQ B R w0 s p ln k er w' r)
theorem RS.setQ {B R : Nat} {w0 : Fx} {w : World} {s : ByteArray} {q : Cf} {start : Nat} {wv ev : Value} {wS : World} (h : RS B R w0 w s q start wv ev wS) (k : Nat) (c : List UInt8) : RS B R w0 w s { q with st := k, cur := c } start wv ev wS := ⟨h.bx, h.ow, h.si, h.wo, h.br, h.bl⟩
theorem RS.setOp {B R : Nat} {w0 : Fx} {w : World} {s : ByteArray} {q : Cf} {start : Nat} {wv ev : Value} {wS : World} (h : RS B R w0 w s q start wv ev wS) (k o : Nat) : RS B R w0 (w.setCell ⟨R, 2, none⟩ (.int .i64 o)) s { q with st := k, op := o } start wv ev wS :=
  ⟨h.bx.p2 o, h.ow, h.si.set h.bx.not_lst 2 _, row_set57 h.wo (.inr rfl) h.bx.not_lst 2 _, h.br, h.bl.set h.br h.bx 2 _⟩
theorem RS.setLine {B R : Nat} {w0 : Fx} {w : World} {s : ByteArray} {q : Cf} {start : Nat} {wv ev : Value} {wS : World} (h : RS B R w0 w s q start wv ev wS) (k o : Nat) : RS B R w0 (w.setCell ⟨R, 1, none⟩ (.int .i64 o)) s { q with st := k, line := o } start wv ev wS :=
  ⟨h.bx.p1 o, h.ow, h.si.set h.bx.not_lst 1 _, row_set57 h.wo (.inr rfl) h.bx.not_lst 1 _, h.br, h.bl.set h.br h.bx 1 _⟩
theorem RS.setStart {B R : Nat} {w0 : Fx} {w : World} {s : ByteArray} {q : Cf} {start : Nat} {wv ev : Value} {wS : World} (h : RS B R w0 w s q start wv ev wS) (k : Nat) (c : List UInt8) (o : Nat) : RS B R w0 (w.setCell ⟨R, 3, none⟩ (.int .i64 o)) s { q with st := k, cur := c } o wv ev wS :=
  ⟨h.bx.p3 o, h.ow, h.si.set h.bx.not_lst 3 _, row_set57 h.wo (.inr rfl) h.bx.not_lst 3 _, h.br, h.bl.set h.br h.bx 3 _⟩
theorem bz (c : UInt8) (k : UInt8) (h : c = k) : ((c.toNat : Nat) : Int) = ((k.toNat : Nat) : Int) := by rw [h]
theorem nbz (c : UInt8) (k : UInt8) (h : ¬ c = k) : (((c.toNat : Nat) : Int) == ((k.toNat : Nat) : Int)) = false := by
  have := bI_eq c k
  unfold bI at this
  rw [this]; simpa using h
set_option maxRecDepth 100000 in
set_option maxHeartbeats 4000000 in
theorem outside51 (B R : Nat) (w0 : Fx) (w : World) (s : ByteArray) (q : Cf) (start : Nat) (wv ev : Value) (wS : World) (p : Nat) (h : RS B R w0 w s q start wv ev wS) (hp : p < s.size) (hs : s.size ≤ 1000000) (hl : q.line ≤ 1000000) (ho : q.op ≤ 1000000) (he : q.es.length ≤ 1000000) :
    Calls Tryd.prog 47 #[.pointer (some ⟨R, 0, none⟩), .int .i64 p] w (StP B R w0 s p q.line (outR q s[p] (s.data.toList.drop (p + 1)))) := by
  have c0 := h.bx.c0
  have c1 := h.bx.c1
  have c2 := h.bx.c2
  have f1 := h.bx.fz 1
  have f2 := h.bx.fz 2
  have hlt := h.bx.lt
  have hp' : (p : Int) < (s.size : Int) := by omega
  have n59 := nbz s[p] 59
  have n40 := nbz s[p] 40
  have n41 := nbz s[p] 41
  have n10 := nbz s[p] 10
  simp only [show ((59 : UInt8).toNat : Int) = 59 from rfl, show ((40 : UInt8).toNat : Int) = 40 from rfl, show ((41 : UInt8).toNat : Int) = 41 from rfl, show ((10 : UInt8).toNat : Int) = 10 from rfl] at n59 n40 n41 n10
  have HR := Lib.hid h
  by_cases h59 : s[p] = 59
  · have e := bz s[p] 59 h59
    have HX : Hid (outR q s[p] (s.data.toList.drop (p + 1)) = .ok { q with st := 6 }) := (by show _ = _; simp [outR, outF, h59])
    rw [HX.out]
    have e' : ((s[p].toNat : Nat) : Int) = 59 := e
    clear h n59 n40 n41 n10 h59 e HX
    go_enter Tryd.func47, Tryd.ntmps47
    go_wp2_with fail
    go_ret2
    exact ⟨6, 0, rfl, rfl, rfl, _, _, _, _, HR.out.setQ 6 q.cur, by simp⟩
  · by_cases h40 : s[p] = 40
    · have e' : ((s[p].toNat : Nat) : Int) = 40 := bz s[p] 40 h40
      have HX : Hid (outR q s[p] (s.data.toList.drop (p + 1)) = .ok { q with st := 0, op := q.op + 1 }) := (by show _ = _; simp [outR, outF, h40])
      rw [HX.out]
      have HO := Lib.hid (h.setOp 0 (q.op + 1))
      clear h n59 n40 n41 n10 h40 h59 HX
      go_enter Tryd.func47, Tryd.ntmps47
      go_wp2_with fail
      go_ret2
      exact ⟨0, 0, rfl, rfl, rfl, _, _, _, _, HO.out, by simp⟩
    · by_cases h41 : s[p] = 41
      · have e' : ((s[p].toNat : Nat) : Int) = 41 := bz s[p] 41 h41
        by_cases hop : q.op = 0
        · have HX : Hid (outR q s[p] (s.data.toList.drop (p + 1)) = .er 230) := (by show _ = _; simp [outR, outF, h41, hop])
          rw [HX.out]
          rw [hop] at c2
          clear h n59 n40 n41 n10 h41 h40 h59 HX hop
          go_enter Tryd.func47, Tryd.ntmps47
          go_wp2_with fail
          go_ret2
          exact ⟨0, 230, rfl, rfl, _, _, _, _, _, rfl, HR.out⟩
        · have HX : Hid (outR q s[p] (s.data.toList.drop (p + 1)) = .ok { q with st := 0, op := q.op - 1 }) := (by show _ = _; simp [outR, outF, h41, hop])
          rw [HX.out]
          have HO := Lib.hid (h.setOp 0 (q.op - 1))
          have hop1 : ¬ (q.op : Int) = 0 := by omega
          have hop2 : ((q.op : Int) == 0) = false := by simpa using hop1
          have hz : ((q.op - 1 : Nat) : Int) = (q.op : Int) - 1 := by omega
          rw [hz] at HO
          clear h n59 n40 n41 n10 h41 h40 h59 HX hop hz
          go_enter Tryd.func47, Tryd.ntmps47
          go_wp2_with fail
          go_ret2
          exact ⟨0, 0, rfl, rfl, rfl, _, _, _, _, HO.out, by simp⟩
      · by_cases h10 : s[p] = 10
        · have e' : ((s[p].toNat : Nat) : Int) = 10 := bz s[p] 10 h10
          have HL := Lib.hid (h.setLine 0 (q.line + 1))
          have d2 := HL.out.bx.c2
          by_cases hop : q.op = 0
          · have HX : Hid (outR q s[p] (s.data.toList.drop (p + 1)) = .ok (beginF (closeF { q with st := 0, line := q.line + 1 }) (s.data.toList.drop (p + 1)))) := (by show _ = _; simp [outR, outF, h10, hop])
            rw [HX.out]
            have KC : Hid (∀ W, RS B R w0 W s { q with st := 0, line := q.line + 1 } start wv ev wS → Calls Tryd.prog 60 #[.pointer (some ⟨R, 0, none⟩)] W fun e w' => e = .returned (.tuple #[]) ∧ Hid (∃ wv' ev', RC B R w0 w' s (closeF { q with st := 0, line := q.line + 1 }) start wv' ev')) := fun W hW => close65 B R w0 W s _ start wv ev wS hW he
            have KB : Hid (∀ W wv' ev', RC B R w0 W s (closeF { q with st := 0, line := q.line + 1 }) start wv' ev' → Calls Tryd.prog 25 #[.pointer (some ⟨R, 0, none⟩), .int .i64 ((p + 1 : Nat) : Int)] W fun e w' => e = .returned (.tuple #[]) ∧ Hid (∃ wS, RS B R w0 w' s (beginF (closeF { q with st := 0, line := q.line + 1 }) (s.data.toList.drop (p + 1))) start (.slice none 0 0) ev' wS)) := fun W wv' ev' hW => begin28 B R w0 W s _ start wv' ev' (p + 1) hW (by omega)
            rw [hop] at d2
            rw [show ((p + 1 : Nat) : Int) = (p : Int) + 1 by omega] at KB
            rw [show ((q.line + 1 : Nat) : Int) = (q.line : Int) + 1 by omega] at HL d2
            clear h n59 n40 n41 n10 h41 h40 h59 h10 HX hop c2
            go_enter Tryd.func47, Tryd.ntmps47
            go_wp2_with fail
            refine (KC.out _ HL.out).mono ?_
            rintro e w1 ⟨rfl, H1⟩
            obtain ⟨wv', ev', hrc⟩ := H1.out
            have H2 := Lib.hid hrc
            clear hrc H1
            go_wp2_with fail
            refine (KB.out _ _ _ H2.out).mono ?_
            rintro e w2 ⟨rfl, H3⟩
            go_wp2_with fail
            go_ret2
            obtain ⟨wS', h3⟩ := H3.out
            exact ⟨0, 0, rfl, rfl, rfl, _, _, _, _, h3, by simp [beginF, closeF]⟩
          · have HX : Hid (outR q s[p] (s.data.toList.drop (p + 1)) = .ok { q with st := 0, line := q.line + 1 }) := (by show _ = _; simp [outR, outF, h10, hop])
            rw [HX.out]
            have hop1 : ¬ (q.op : Int) = 0 := by omega
            have hop2 : ((q.op : Int) == 0) = false := by simpa using hop1
            rw [show ((q.line + 1 : Nat) : Int) = (q.line : Int) + 1 by omega] at HL d2
            clear h n59 n40 n41 n10 h41 h40 h59 h10 HX hop
            go_enter Tryd.func47, Tryd.ntmps47
            go_wp2_with fail
            go_ret2
            exact ⟨0, 0, rfl, rfl, rfl, _, _, _, _, HL.out, by simp⟩
        · have HX : Hid (outR q s[p] (s.data.toList.drop (p + 1)) = .ok { q with st := 0 }) := (by show _ = _; simp [outR, outF, h59, h40, h41, h10])
          rw [HX.out]
          have m59 := n59 h59
          have m40 := n40 h40
          have m41 := n41 h41
          have m10 := n10 h10
          clear h n59 n40 n41 n10 h41 h40 h59 h10 HX
          go_enter Tryd.func47, Tryd.ntmps47
          go_wp2_with fail
          go_ret2
          exact ⟨0, 0, rfl, rfl, rfl, _, _, _, _, HR.out.setQ 0 q.cur, by simp⟩
end Go.Proofs.YtgdkeafjglcgaaaDoor
