/- Names out of bytes, as the document reads them. -/
import Derived.Test.YtkbpjaojgkpffaaNu
namespace Go.Proofs.Ytkbpjaojgkpffaa
open Go.ChangeShapes Go.WideShapes Go.ChangeAt Go.RowKit
set_option linter.unusedVariables false
set_option linter.unusedSimpArgs false

/-- The labels from a place of bytes on, and the place behind them; none, if no name's bytes stand there. -/
def rgo (l : List Int) (p : Nat) (out : List ByteArray) : Option (List ByteArray × Nat) :=
  if h : p < l.length ∧ l.getD p 0 ≤ 63 then
    if l.getD p 0 = 0 then some (out, p + 1)
    else if (l.length : Int) - ((p : Int) + 1) < l.getD p 0 then none
    else rgo l (p + 1 + (l.getD p 0).toNat) (out ++ [lb ((l.drop (p + 1)).take (l.getD p 0).toNat)])
  else none
termination_by l.length - p
decreasing_by omega

def nread (l : List Int) (d : Int) : List ByteArray × Int × Int :=
  if d < 0 ∨ (l.length : Int) ≤ d then ([], 0, 2)
  else match rgo l d.toNat [] with
    | none => ([], 0, 8)
    | some (out, q) => if nck out = 0 then (out, (q : Int), 0) else ([], 0, 8)

theorem rgo_end (l : List Int) (p : Nat) (out : List ByteArray) (h : ¬ (p < l.length ∧ l.getD p 0 ≤ 63)) : rgo l p out = none := by rw [rgo, dif_neg h]
theorem rgo_zero (l : List Int) (p : Nat) (out : List ByteArray) (h : p < l.length ∧ l.getD p 0 ≤ 63) (h0 : l.getD p 0 = 0) : rgo l p out = some (out, p + 1) := by rw [rgo, dif_pos h, if_pos h0]
theorem rgo_short (l : List Int) (p : Nat) (out : List ByteArray) (h : p < l.length ∧ l.getD p 0 ≤ 63) (h0 : ¬ l.getD p 0 = 0) (h1 : (l.length : Int) - ((p : Int) + 1) < l.getD p 0) : rgo l p out = none := by rw [rgo, dif_pos h, if_neg h0, if_pos h1]
theorem rgo_step (l : List Int) (p : Nat) (out : List ByteArray) (h : p < l.length ∧ l.getD p 0 ≤ 63) (h0 : ¬ l.getD p 0 = 0) (h1 : ¬ (l.length : Int) - ((p : Int) + 1) < l.getD p 0) : rgo l p out = rgo l (p + 1 + (l.getD p 0).toNat) (out ++ [lb ((l.drop (p + 1)).take (l.getD p 0).toNat)]) := by
  rw [rgo, dif_pos h, if_neg h0, if_neg h1]

def RPost (r : List ByteArray × Int × Int) (w : World) (e : Ending) (w' : World) : Prop :=
  ∃ v ys, e = .returned (.tuple #[v, .int .i64 r.2.1, .int .i64 r.2.2]) ∧ Hid (OwnT w.heap.size w' v r.1.length ys 1000000000000 ∧ ys.take r.1.length = r.1 ∧ Below w.heap.size w w')
theorem rpost_none {k : Int} {w w' : World} {e : Ending} (he : e = .returned (.tuple #[.slice none 0 0, .int .i64 0, .int .i64 k])) (hb : Below w.heap.size w w') : RPost ([], 0, k) w e w' :=
  ⟨.slice none 0 0, [], he, OwnT.nil _ _ _, rfl, hb⟩

set_option maxRecDepth 100000 in
set_option maxHeartbeats 2000000 in
theorem refread_in (a : Option Addr) (len cap : Nat) (zs : List Int) (p0 : Nat) (w : World) (hr : Rd w a zs) (hl : zs.length = len) (hm : len ≤ 1000000000) (hc : len ≤ cap ∧ cap ≤ 9223372036854775807) (hp0 : p0 < len) :
    Calls Try.prog 46 #[.slice a len cap, .int .i64 p0] w (RPost (nread zs p0) w) := by
  have HR : Hid (Rd w a zs) := hr
  have HL : Hid (zs.length = len) := hl
  have HX : Hid (nread zs (p0 : Int) = match rgo zs p0 [] with
    | none => ([], 0, 8)
    | some (out, q) => if nck out = 0 then (out, (q : Int), 0) else ([], 0, 8)) := by
    show _ = _
    unfold nread
    rw [if_neg (by rw [hl]; omega), Int.toNat_natCast]
  obtain ⟨R, hR⟩ : ∃ R, nread zs (p0 : Int) = R := ⟨_, rfl⟩
  rw [hR] at HX ⊢
  have h1 : ¬ (p0 : Int) < 0 := by omega
  have h2 : ¬ (len : Int) ≤ (p0 : Int) := by omega
  clear hr hl hR
  go_enter Try.func46, Try.ntmps46
  go_wp2_with fail
  go_loopw [1, 7] (fun x v wr => ∃ (p : Nat) (out : List ByteArray), p ≤ len ∧ x = .int .i64 p ∧ out.length ≤ p ∧ Hid (rgo zs p0 [] = rgo zs p out) ∧ Hid (∀ s ∈ out, s.size ≤ 63) ∧ Hid (∃ ys, OwnT w.heap.size wr v out.length ys 1000000000000 ∧ ys.take out.length = out) ∧ Hid (Below w.heap.size w wr)) (fun x _ _ => len - (intOf x).toNat)
  case atStart => exact ⟨p0, [], by omega, rfl, Nat.zero_le _, rfl, (fun s hs => by cases hs), ⟨[], OwnT.nil _ _ _, rfl⟩, Below.refl _ _⟩
  case round =>
    obtain ⟨p, out, hp, rfl, hol, HG, HS, HW, HB⟩ := hrel
    by_cases hlt : p < len
    · have hlt' : (p : Int) < (len : Int) := by omega
      have HRw : Hid (Rd wr a zs) := HR.out.below HB.out
      rcases HRw.out.1 with e1 | ⟨b, o, rfl, e1, e2⟩
      · have := HL.out; subst e1; simp at this; omega
      have hcell := e2 p (by rw [HL.out]; exact hlt)
      have hbd := HRw.out.bd p
      have g1 : Hid (¬ zs.getD p 0 ≤ 63 → rgo zs p0 [] = none) := fun h => HG.out.trans (rgo_end _ _ _ (fun h2 => h h2.2))
      have g2 : Hid (zs.getD p 0 = 0 → rgo zs p0 [] = some (out, p + 1)) := fun h => HG.out.trans (rgo_zero _ _ _ ⟨by rw [HL.out]; exact hlt, by omega⟩ h)
      have g3 : Hid (zs.getD p 0 ≤ 63 → ¬ zs.getD p 0 = 0 → (len : Int) - ((p : Int) + 1) < zs.getD p 0 → rgo zs p0 [] = none) := fun h h' h'' => HG.out.trans (rgo_short _ _ _ ⟨by rw [HL.out]; exact hlt, h⟩ h' (by rw [HL.out]; exact h''))
      have g4 : Hid (zs.getD p 0 ≤ 63 → ¬ zs.getD p 0 = 0 → ¬ (len : Int) - ((p : Int) + 1) < zs.getD p 0 → rgo zs p0 [] = rgo zs (p + 1 + (zs.getD p 0).toNat) (out ++ [lb ((zs.drop (p + 1)).take (zs.getD p 0).toNat)])) := fun h h' h'' => HG.out.trans (rgo_step _ _ _ ⟨by rw [HL.out]; exact hlt, h⟩ h' (by rw [HL.out]; exact h''))
      clear HG e2
      obtain ⟨c, hcc⟩ : ∃ c, zs.getD p 0 = c := ⟨_, rfl⟩
      rw [hcc] at hcell hbd g1 g2 g3 g4
      clear hcc
      by_cases c63 : c ≤ 63
      · by_cases c0 : c = 0
        · have e := g2.out c0
          subst c0
          have HN : Hid (nsz out ≤ 1000000000000) := by have := nsz_bd out HS.out; show _ ≤ _; omega
          have HE : Hid (R = if nck out = 0 then (out, ((p + 1 : Nat) : Int), 0) else ([], 0, 8)) := by have := HX.out; rw [e] at this; exact this
          clear e g1 g2 g3 g4
          obtain ⟨ys, hO, hT⟩ := HW.out
          obtain ⟨ao, hv, hao⟩ := hO.shape
          subst hv
          have hnm : Nm wr ao out.length out := ⟨by have := hO.rd out.length; rw [hT] at this; exact this, rfl, HN.out⟩
          have KC : Hid (Calls Try.prog 12 #[.slice ao out.length ys.length] wr fun e w' => e = .returned (.int .i64 (nck out)) ∧ w' = wr) := nm_check ys.length hnm
          have HF : Hid (OwnT w.heap.size wr (.slice ao out.length ys.length) out.length ys 1000000000000 ∧ ys.take out.length = out ∧ Below w.heap.size w wr) := ⟨hO, hT, HB.out⟩
          clear hnm hO hT
          by_cases hk : nck out = 0
          · rw [hk] at KC
            have e := HE.out
            rw [if_pos hk] at e
            subst e
            clear HE hk HX
            go_wp2_with fail
            refine KC.out.mono ?_
            rintro e w1 ⟨rfl, rfl⟩
            go_wp2
            go_ret3
            exact ⟨_, ys, rfl, HF⟩
          · have e := HE.out
            rw [if_neg hk] at e
            subst e
            generalize nck out = q at *
            have hq : (q != 0) = true := bne_iff_ne.2 hk
            clear HE hk HX
            go_wp2_with fail
            refine KC.out.mono ?_
            rintro e w1 ⟨rfl, rfl⟩
            go_wp2
            go_ret3
            exact rpost_none rfl HB.out
        · have c0' : (c == 0) = false := by simp [c0]
          by_cases cs : (len : Int) - ((p : Int) + 1) < c
          · have e : R = ([], 0, 8) := by have := HX.out; rw [g3.out c63 c0 cs] at this; exact this
            subst e
            clear HX g1 g2 g3 g4 HW
            go_wp2
            go_ret3
            exact rpost_none rfl HB.out
          · have HG2 := g4.out c63 c0 cs
            obtain ⟨k, hk⟩ : ∃ k : Nat, c = (k : Int) := ⟨c.toNat, by omega⟩
            subst hk
            rw [Int.toNat_natCast] at HG2
            have hk1 : 1 ≤ k := by omega
            have hk2 : p + 1 + k ≤ len := by omega
            have hk3 : k ≤ 63 := by omega
            have hsub : ((zs.drop (p + 1)).take k).length = k := by rw [List.length_take, List.length_drop, HL.out]; omega
            have hrd : Rd wr (some ⟨b, o + (p + 1), none⟩) ((zs.drop (p + 1)).take k) := HRw.out.cut (p + 1) k (by rw [HL.out]; omega) (fun _ b' o' e => by cases e; rfl)
            have hcv := fun cc => conv_rd (some ⟨b, o + (p + 1), none⟩) k cc ((zs.drop (p + 1)).take k) wr hrd hsub
            have hls : (lb ((zs.drop (p + 1)).take k)).size ≤ 63 := by rw [lb_size, hsub]; exact hk3
            have HG3 : Hid (rgo zs p0 [] = rgo zs (p + 1 + k) (out ++ [lb ((zs.drop (p + 1)).take k)])) := HG2
            have hcv2 : ∀ cc, (convert 51 9 (.slice (some ⟨b, o + (p + 1), none⟩) k cc)).run Try.prog wr = .ok (.string (lb ((zs.drop (p + 1)).take k))) wr := hcv
            clear hcv hrd hsub HG2 g1 g2 g3 g4
            generalize lb ((zs.drop (p + 1)).take k) = f at *
            obtain ⟨ys, hO, hT⟩ := HW.out
            have hnb : Below wr.heap.size wr (wr.alloc (.cells #[.string f] 9)) := (Below.refl _ _).alloc (Nat.le_refl _) _
            have HO2 : Hid (OwnT w.heap.size (wr.alloc (.cells #[.string f] 9)) u7 out.length ys 1000000000000 ∧ ys.take out.length = out) := ⟨hO.below hnb, hT⟩
            have HNB : Hid (Below wr.heap.size wr (wr.alloc (.cells #[.string f] 9))) := hnb
            have hcv3 := hcv2 (cap - (p + 1))
            clear hO hT hnb hcv2
            have hpc : (p : Int) + 1 + (k : Int) ≤ (cap : Int) := by omega
            have hpa : ¬ cap - (p + 1) = 0 := by omega
            have hpb : ¬ (p + 1) = cap := by omega
            go_wp2_with (at_builtin; refine wpList_append_T tyN _ rfl _ _ 23 9 Try.underlying23 rfl w.heap.size _ out.length ys 1000000000000 rfl HO2.out.1 (some ⟨wr.heap.size, 0, none⟩) 1 1 [f] rfl (one_rdT wr f) rfl (by intro s hs; simp at hs; subst hs; omega) (by omega) (Nat.le_trans HB.out.size HNB.out.size) ?_; intro v' w' ys' hO' hT' hG'; have HB2 : Hid (Below w.heap.size w w') := ((HB.out.trans (HNB.out.mono HB.out.size)).grown hG' (Nat.le_trans HB.out.size HNB.out.size) HO2.out.1.1.lt); clear hG')
            refine ⟨⟨p + 1 + k, out ++ [f], hk2, by go_num, by rw [List.length_append]; show out.length + 1 ≤ _; omega, HG3, ?_, ⟨ys', ?_, ?_⟩, HB2⟩, by simp [intOf]; omega⟩
            · intro s hs
              rcases List.mem_append.1 hs with hs | hs
              · exact HS.out s hs
              · simp at hs; subst hs; exact hls
            · rw [List.length_append]; exact hO'.out
            · rw [List.length_append]; exact hT'.out.trans (by rw [HO2.out.2])
      · have e : R = ([], 0, 8) := by have := HX.out; rw [g1.out c63] at this; exact this
        subst e
        have c63' : 63 < c := by omega
        clear HX g1 g2 g3 g4 HW c63
        go_wp2
        go_ret3
        exact rpost_none rfl HB.out
    · have e : R = ([], 0, 8) := by
        have := HX.out
        rw [HG.out, rgo_end _ _ _ (fun h => hlt (by have := h.1; rw [HL.out] at this; exact this))] at this
        exact this
      subst e
      have hge : (len : Int) ≤ (p : Int) := by omega
      clear HX HG
      go_wp2
      go_ret3
      exact rpost_none rfl HB.out

set_option maxRecDepth 100000 in
set_option maxHeartbeats 2000000 in
theorem refread_any (a : Option Addr) (len cap : Nat) (zs : List Int) (d : Int) (w : World) (hr : Rd w a zs) (hl : zs.length = len) (hm : len ≤ 1000000000) (hc : len ≤ cap ∧ cap ≤ 9223372036854775807) :
    Calls Try.prog 46 #[.slice a len cap, .int .i64 d] w (RPost (nread zs d) w) := by
  by_cases hd : d < 0 ∨ (len : Int) ≤ d
  · have hp : nread zs d = ([], 0, 2) := by unfold nread; rw [if_pos (by rw [hl]; exact hd)]
    rw [hp]
    have hd' : d < 0 ∨ (¬ d < 0 ∧ (len : Int) ≤ d) := by omega
    clear hp hd hr
    rcases hd' with hd | ⟨hd, hd2⟩
    all_goals
      go_enter Try.func46, Try.ntmps46
      go_wp2
      go_ret3
      exact rpost_none rfl (Below.refl _ _)
  · obtain ⟨p, rfl⟩ : ∃ p : Nat, d = (p : Int) := ⟨d.toNat, by omega⟩
    exact refread_in a len cap zs p w hr hl hm hc (by omega)
end Go.Proofs.Ytkbpjaojgkpffaa
