/- The program's names: read out of octets. -/
import Derived.Test.YtkbpjaojgkpffaaNxl
namespace Go.Proofs.Ytkbpjaojgkpffaa
open Go.ChangeShapes Go.WideShapes Go.ChangeAt Go.RowKit
set_option linter.unusedVariables false
set_option linter.unusedSimpArgs false

/-- What a new reader is: its block, its own copy of the octets; all of it new. -/
def NewPost (l : List Int) (w : World) (e : Ending) (w' : World) : Prop :=
  ∃ gr a' ca, e = .returned (.pointer (some ⟨gr, 0, none⟩)) ∧ Hid (w.heap.size ≤ gr ∧ RBlk w' gr (.slice a' l.length ca) 0 false ∧ Rd w' a' l ∧ l.length ≤ ca ∧ (a' = none → ca = 0) ∧ Off a' gr ∧ (∀ y o, a' = some ⟨y, o, none⟩ → w.heap.size ≤ y ∧ y < w'.heap.size) ∧ Below w.heap.size w w')

theorem grown_app {w1 wr w2 w' : World} {gr : Nat} {v : Value} {o : Obj} (h1 : w1.grownBy wr (some gr)) (h2 : wr.grownBy w2 (some gr)) (h3 : (w2.alloc o).grownBy w' v.ownBlock) (hv : ∀ g, v.ownBlock = some g → w1.heap.size ≤ g) : w1.grownBy w' (some gr) := by
  have hz : w2.heap.size ≤ (w2.alloc o).heap.size := by simp
  refine ⟨h3.os.trans (h2.os.trans h1.os), h3.tape.trans (h2.tape.trans h1.tape), h3.output.trans (h2.output.trans h1.output), Nat.le_trans h1.size (Nat.le_trans h2.size (Nat.le_trans hz h3.size)), fun k hk hne => ?_⟩
  have hk1 := Nat.lt_of_lt_of_le hk h1.size
  have hk2 := Nat.lt_of_lt_of_le hk1 h2.size
  refine (h3.block k (Nat.lt_of_lt_of_le hk2 hz) (fun e => by have := hv k e.symm; omega)).trans ?_
  exact (Below.heap_alloc w2 o k hk2).trans ((h2.block k hk1 hne).trans (h1.block k hk hne))
theorem same_app {w1 wr w2 w' : World} {gr : Nat} {v : Value} {o : Obj} (hg : gr < w1.heap.size) (h1 : w1.grownBy wr (some gr)) (h2 : wr.grownBy w2 (some gr)) (h3 : (w2.alloc o).grownBy w' v.ownBlock) (hv : ∀ g, v.ownBlock = some g → w1.heap.size ≤ g) : w'.heap[gr]? = w2.heap[gr]? := by
  have hz : w2.heap.size ≤ (w2.alloc o).heap.size := by simp
  have hk2 := Nat.lt_of_lt_of_le (Nat.lt_of_lt_of_le hg h1.size) h2.size
  exact (h3.block gr (Nat.lt_of_lt_of_le hk2 hz) (fun e => by have := hv gr e.symm; omega)).trans (Below.heap_alloc w2 o gr hk2)
theorem OwnT.keepOff {B : Nat} {w w' : World} {v : Value} {n : Nat} {ss : List ByteArray} {M gr : Nat} (h : OwnT B w v n ss M) (hg : w.grownBy w' (some gr)) (hB : gr < B) : OwnT B w' v n ss M :=
  ⟨h.1.keep fun g e hlt => hg.block g hlt (fun e' => by have := h.1.lt g e; have : g = gr := Option.some.inj e'; omega), h.2⟩
theorem grown_two {w1 wr w2 : World} {gr : Nat} (h1 : w1.grownBy wr (some gr)) (h2 : wr.grownBy w2 (some gr)) : w1.grownBy w2 (some gr) :=
  ⟨h2.os.trans h1.os, h2.tape.trans h1.tape, h2.output.trans h1.output, Nat.le_trans h1.size h2.size, fun k hk hne => (h2.block k (Nat.lt_of_lt_of_le hk h1.size) hne).trans (h1.block k hk hne)⟩
theorem below_off {B gr : Nat} {w w1 w2 : World} (h : Below B w w1) (hg : w1.grownBy w2 (some gr)) (hB : B ≤ gr) (h0 : B ≤ w1.heap.size) : Below B w w2 := h.grown hg h0 (fun k e => by cases e; exact hB)

set_option maxRecDepth 100000 in
set_option maxHeartbeats 2000000 in
theorem pread_in (b o len cap p0 M : Nat) (zs : List Int) (w : World) (hr : Rd w (some ⟨b, o, none⟩) zs) (hl : zs.length = len) (hm : len ≤ 140737488355328) (hc : len ≤ cap ∧ cap ≤ 9223372036854775807) (hp0 : p0 < len) (hM : M = min (len - p0) 255) :
    Calls Try.prog 45 #[.slice (some ⟨b, o, none⟩) len cap, .int .i64 p0] w (RPost (nread zs p0) w) := by
  have HX : Hid (nread zs (p0 : Int) = match pgo (win zs p0) 0 [] with
    | (_, none) => ([], 0, 8)
    | (out, some q) => if nck out = 0 then (out, ((p0 + q : Nat) : Int), 0) else ([], 0, 8)) := nread_pgo zs hr.2 p0 (by omega)
  have HWL : Hid ((win zs p0).length = M) := by show _ = _; rw [win_len, hl, hM]; omega
  have HWB : Hid (∀ z ∈ win zs p0, 0 ≤ z ∧ z ≤ 255) := fun z hz => hr.2 z (List.mem_of_mem_drop (List.mem_of_mem_take hz))
  have KN : Hid (∀ N, N = M → Calls Try.prog 74 #[.slice (some ⟨b, o + p0, none⟩) N (cap - p0)] w (NewPost (win zs p0) w)) := by
    intro N hN
    subst hN
    have hcut : Rd w (some ⟨b, o + p0, none⟩) (win zs p0) := by
      have := hr.cut p0 N (by omega) (a' := some ⟨b, o + p0, none⟩) (fun _ b' o' e => by cases e; rfl)
      have e : (zs.drop p0).take N = win zs p0 := by
        unfold win
        rw [hM, List.take_eq_take_iff, List.length_drop, hl]
        omega
      rw [e] at this
      exact this
    have := new_any ⟨b, o + p0, none⟩ (cap - p0) (win zs p0) w hcut (by rw [HWL.out]; omega)
    rw [HWL.out] at this
    unfold NewPost
    rw [HWL.out]
    exact this
  generalize win zs p0 = l at *
  obtain ⟨R, hR⟩ : ∃ R, nread zs (p0 : Int) = R := ⟨_, rfl⟩
  rw [hR] at HX ⊢
  clear hr hl hR
  have h1 : ¬ (p0 : Int) < 0 := by omega
  have h2 : ¬ (len : Int) ≤ (p0 : Int) := by omega
  have h3 : (p0 : Int) ≤ (len : Int) := by omega
  have h4 : (p0 : Int) ≤ (cap : Int) := by omega
  have h5 : ¬ cap = p0 := by omega
  go_enter Try.func45, Try.ntmps45
  go_wp2_with fail
  all_goals
    refine (KN.out _ ?_).mono ?_
    · omega
    rintro e w1 ⟨gr, a', ca, rfl, H1⟩
    obtain ⟨q1, q2, q3, q4, q5, q6, q7, q8⟩ := H1.out
    rw [HWL.out] at q2 q4
    have HE : Hid (Rd w1 a' l ∧ M ≤ ca ∧ (a' = none → ca = 0) ∧ Off a' gr ∧ gr < w1.heap.size ∧ w.heap.size ≤ gr ∧ Below w.heap.size w w1 ∧ (∀ y o, a' = some ⟨y, o, none⟩ → y < w1.heap.size)) := ⟨q3, q4, q5, q6, q2.lt, q1, q8, fun y o h => (q7 y o h).2⟩
    have HS0 : Hid (RSt w1 gr a' M ca (some 0) ∧ w1.grownBy w1 (some gr)) := ⟨⟨q2, Nat.zero_le _⟩, World.grownBy.refl _ _⟩
    have hM2 : M ≤ 255 := by omega
    have KB : Hid (∀ W st, RSt W gr a' M ca st → w1.grownBy W (some gr) → Calls Try.prog 75 #[.pointer (some ⟨gr, 0, none⟩)] W fun e w' => e = .returned (.int .i64 (val (tk l st 1))) ∧ Hid (RSt w' gr a' M ca (mv M st 1) ∧ W.grownBy w' (some gr))) := fun W st g1 g2 => rbyte_any gr a' M ca l st W g1 (HE.out.1.grown g2 HE.out.2.2.2.1) HWL.out HE.out.2.1 (by omega) HE.out.2.2.1 HE.out.2.2.2.1
    have KT : Hid (∀ W st n, RSt W gr a' M ca st → w1.grownBy W (some gr) → Calls Try.prog 76 #[.pointer (some ⟨gr, 0, none⟩), .int .i64 n] W fun e w' => ∃ v ys, e = .returned v ∧ Hid (Own W.heap.size w' v (tk l st n).length ys ∧ ys.take (tk l st n).length = tk l st n ∧ RSt w' gr a' M ca (mv M st n) ∧ W.grownBy w' (some gr))) := fun W st n g1 g2 => rtake_any gr a' M ca l st n W g1 (HE.out.1.grown g2 HE.out.2.2.2.1) HWL.out HE.out.2.1 (by omega) HE.out.2.2.1 HE.out.2.2.2.1
    have KD : Hid (∀ W st, RSt W gr a' M ca st → w1.grownBy W (some gr) → Calls Try.prog 77 #[.pointer (some ⟨gr, 0, none⟩)] W fun e w' => e = .returned (.bool st.isNone) ∧ Hid (RSt w' gr a' M ca st ∧ W.grownBy w' (some gr))) := fun W st g1 g2 => rbad_any gr a' M ca l st W g1 (HE.out.1.grown g2 HE.out.2.2.2.1) HWL.out HE.out.2.1 (by omega) HE.out.2.2.1 HE.out.2.2.2.1
    have KA : Hid (∀ W st, RSt W gr a' M ca st → w1.grownBy W (some gr) → Calls Try.prog 78 #[.pointer (some ⟨gr, 0, none⟩)] W fun e w' => e = .returned (.int .i64 (pos st)) ∧ Hid (RSt w' gr a' M ca st ∧ W.grownBy w' (some gr))) := fun W st g1 g2 => rat_any gr a' M ca l st W g1 (HE.out.1.grown g2 HE.out.2.2.2.1) HWL.out HE.out.2.1 (by omega) HE.out.2.2.1 HE.out.2.2.2.1
    clear H1 q1 q2 q3 q4 q5 q6 q7 q8 KN
    go_wp2_with fail
    refine (KB.out _ _ HS0.out.1 HS0.out.2).mono ?_
    rintro e w2 ⟨rfl, H2⟩
    have HI0 : Hid (pgo l 0 [] = aft l (mv M (some 0) 1) (val (tk l (some 0) 1)) [] ∧ (0 < val (tk l (some 0) 1) → ∃ p, mv M (some 0) 1 = some p ∧ ([] : List ByteArray).length < p ∧ p ≤ M) ∧ 0 ≤ val (tk l (some 0) 1) ∧ val (tk l (some 0) 1) ≤ 255) := by
      refine ⟨?_, ?_, nb_bd l HWB.out _⟩
      · have := pgo_aft l 0 []
        rw [HWL.out] at this
        exact this
      · intro hz
        obtain ⟨p, e1, e2, e3⟩ := nb_pos l (some 0) hz
        rw [HWL.out] at e2 e3
        exact ⟨p + 1, e2, by simp, by omega⟩
    generalize val (tk l (some 0) 1) = z0 at *
    generalize mv M (some 0) 1 = st0 at *
    go_wp2_with fail
    go_loopw [9, 10] (fun v x wr => ∃ (z : Int) (st : Option Nat) (out : List ByteArray), x = .int .i64 z ∧ 0 ≤ z ∧ z ≤ 255 ∧ out.length ≤ 256 ∧ Hid (pgo l 0 [] = aft l st z out) ∧ Hid (0 < z → ∃ p, st = some p ∧ out.length < p ∧ p ≤ M) ∧ Hid (RSt wr gr a' M ca st ∧ w1.grownBy wr (some gr)) ∧ Hid ((∃ ys, OwnT w1.heap.size wr v out.length ys 1000000000000 ∧ ys.take out.length = out) ∧ ∀ s ∈ out, s.size ≤ 255)) (fun v _ _ => match v with | .slice _ n _ => 300 - n | _ => 0)
    case atStart => exact ⟨z0, st0, [], rfl, HI0.out.2.2.1, HI0.out.2.2.2, by simp, HI0.out.1, HI0.out.2.1, H2, ⟨[], OwnT.nil _ _ _, rfl⟩, by simp⟩
    case round =>
      clear HI0 H2 HS0
      obtain ⟨z, st, out, rfl, hz0, hz255, hol, HG, HP, HS, HW⟩ := hrel
      obtain ⟨ys, hO, hT⟩ := HW.out.1
      obtain ⟨ao, hv, hao⟩ := hO.shape
      subst hv
      have HO : Hid (OwnT w1.heap.size wr (.slice ao out.length ys.length) out.length ys 1000000000000 ∧ ys.take out.length = out) := ⟨hO, hT⟩
      clear hO hT hao
      generalize hyl : ys.length = yl at *
      clear hyl
      by_cases hz : 0 < z
      · obtain ⟨p, rfl, hop, hpM⟩ := HP.out hz
        have HST : Hid (pgo l 0 [] = aft l (mv M (mv M (some p) z) 1) (val (tk l (mv M (some p) z) 1)) (out ++ [lb (tk l (some p) z)])) := by
          have := aft_step l p z out hz
          rw [HWL.out] at this
          show _ = _
          rw [HG.out, this]
        have HNX : Hid ((0 < val (tk l (mv M (some p) z) 1) → ∃ p2, mv M (mv M (some p) z) 1 = some p2 ∧ (out ++ [lb (tk l (some p) z)]).length < p2 ∧ p2 ≤ M) ∧ 0 ≤ val (tk l (mv M (some p) z) 1) ∧ val (tk l (mv M (some p) z) 1) ≤ 255) := by
          refine ⟨?_, nb_bd l HWB.out _⟩
          intro h
          obtain ⟨p2, e1, e2, e3⟩ := nb_pos l _ h
          rw [HWL.out] at e2 e3
          refine ⟨p2 + 1, e2, ?_, by omega⟩
          unfold mv at e1
          simp only at e1
          by_cases hf : 0 ≤ z ∧ (p : Int) + z ≤ M
          · rw [if_pos hf] at e1
            have : p + z.toNat = p2 := by simpa using e1
            rw [List.length_append, List.length_singleton]
            omega
          · rw [if_neg hf] at e1
            cases e1
        have hfs : (lb (tk l (some p) z)).size ≤ 255 := by
          have := tk_len l (some p) z.toNat
          rw [show ((z.toNat : Nat) : Int) = z by omega] at this
          rw [lb_size]
          omega
        have KTz : Hid (Calls Try.prog 76 #[.pointer (some ⟨gr, 0, none⟩), .int .i64 z] wr fun e w' => ∃ v ys, e = .returned v ∧ Hid (Own wr.heap.size w' v (tk l (some p) z).length ys ∧ ys.take (tk l (some p) z).length = tk l (some p) z ∧ RSt w' gr a' M ca (mv M (some p) z) ∧ wr.grownBy w' (some gr))) := KT.out wr (some p) z HS.out.1 HS.out.2
        have HLB : Hid (∀ W ao n c, Rd W ao (tk l (some p) z) → (tk l (some p) z).length = n → (convert 51 9 (.slice ao n c)).run Try.prog W = .ok (.string (lb (tk l (some p) z))) W) := fun W ao n c g1 g2 => conv_rd ao n c _ W g1 g2
        have KB2 : Hid (∀ W, RSt W gr a' M ca (mv M (some p) z) → w1.grownBy W (some gr) → Calls Try.prog 75 #[.pointer (some ⟨gr, 0, none⟩)] W fun e w' => e = .returned (.int .i64 (val (tk l (mv M (some p) z) 1))) ∧ Hid (RSt w' gr a' M ca (mv M (mv M (some p) z) 1) ∧ W.grownBy w' (some gr))) := fun W => KB.out W _
        generalize val (tk l (mv M (some p) z) 1) = z2 at *
        generalize mv M (mv M (some p) z) 1 = st2 at *
        generalize mv M (some p) z = stz at *
        generalize tk l (some p) z = tz at *
        generalize lb tz = f at *
        obtain ⟨n2, hn2⟩ : ∃ n, tz.length = n := ⟨_, rfl⟩
        rw [hn2] at KTz
        clear KB KT KD KA HG HP
        go_wp2_with fail
        refine KTz.out.mono ?_
        rintro e w2 ⟨v2, zs2, rfl, H2⟩
        obtain ⟨ao2, hv2, hA2⟩ := H2.out.1.addr
        subst hv2
        have hcv : ∀ c, (convert 51 9 (.slice ao2 n2 c)).run Try.prog w2 = .ok (.string f) w2 := fun c => HLB.out w2 ao2 _ _ (by have := hA2.rdTake n2; rw [H2.out.2.1] at this; exact this) hn2
        have HO2 : Hid (OwnT w1.heap.size (w2.alloc (.cells #[.string f] 9)) (.slice ao out.length yl) out.length ys 1000000000000 ∧ ys.take out.length = out) := ⟨(HO.out.1.keepOff H2.out.2.2.2 HE.out.2.2.2.2.1).below ((Below.refl _ _).alloc (Nat.le_refl _) _), HO.out.2⟩
        have HZ2 : Hid (w1.heap.size ≤ (w2.alloc (.cells #[.string f] 9)).heap.size) := by have := HS.out.2.size; have := H2.out.2.2.2.size; show _ ≤ _; simp; omega
        clear KTz HLB hA2
        generalize zs2.length = c2 at *
        go_wp2_with (at_builtin; refine wpList_append_T tyN _ rfl _ _ 23 9 Try.underlying23 rfl w1.heap.size _ out.length ys 1000000000000 rfl HO2.out.1 (some ⟨w2.heap.size, 0, none⟩) 1 1 [f] rfl (one_rdT w2 f) rfl (by intro s hs; simp at hs; subst hs; omega) (by omega) HZ2.out ?_; intro v' w' ys' hO' hT' hG'; have HG2 : Hid ((w2.alloc (.cells #[.string f] 9)).grownBy w' (Value.slice ao out.length yl).ownBlock) := hG'; clear hG')
        have hown := HO.out.1.1.lt
        have HR3 : Hid (RSt w' gr a' M ca stz ∧ w1.grownBy w' (some gr)) := ⟨H2.out.2.2.1.same (same_app HE.out.2.2.2.2.1 HS.out.2 H2.out.2.2.2 HG2.out hown), grown_app HS.out.2 H2.out.2.2.2 HG2.out hown⟩
        refine (KB2.out _ HR3.out.1 HR3.out.2).mono ?_
        rintro e w4 ⟨rfl, H4⟩
        obtain ⟨ao', hv', _⟩ := hO'.out.shape
        subst hv'
        go_wp2
        refine ⟨⟨z2, st2, out ++ [f], rfl, HNX.out.2.1, HNX.out.2.2, by rw [List.length_append, List.length_singleton]; omega, HST, HNX.out.1, ⟨H4.out.1, grown_two HR3.out.2 H4.out.2⟩, ⟨ys', ?_, ?_⟩, ?_⟩, ?_⟩
        · rw [List.length_append]; exact hO'.out.keepOff H4.out.2 HE.out.2.2.2.2.1
        · rw [List.length_append]; exact hT'.out.trans (by rw [HO2.out.2])
        · intro s hs
          rcases List.mem_append.1 hs with hs | hs
          · exact HW.out.2 s hs
          · simp at hs; subst hs; exact hfs
        · simp; omega
      · obtain rfl : z = 0 := by omega
        have hR : pgo l 0 [] = (out, st) := HG.out
        rw [hR] at HX
        clear hR HG HP KB KT
        cases st with
        | none =>
          have e := HX.out
          simp only at e
          subst e
          have KDz := KD.out wr none HS.out.1 HS.out.2
          have KD2 : Hid (Calls Try.prog 77 #[.pointer (some ⟨gr, 0, none⟩)] wr fun e w' => e = .returned (.bool true) ∧ Hid (RSt w' gr a' M ca none ∧ wr.grownBy w' (some gr))) := KDz
          clear KDz HX KD KA
          go_wp2_with fail
          refine KD2.out.mono ?_
          rintro e w2 ⟨rfl, H2⟩
          go_wp2
          go_ret3
          exact rpost_none rfl (below_off (below_off HE.out.2.2.2.2.2.2.1 HS.out.2 HE.out.2.2.2.2.2.1 HE.out.2.2.2.2.2.2.1.size) H2.out.2 HE.out.2.2.2.2.2.1 (Nat.le_trans HE.out.2.2.2.2.2.2.1.size HS.out.2.size))
        | some q =>
          have hqM : q ≤ M := HS.out.1.2
          have KD2 : Hid (Calls Try.prog 77 #[.pointer (some ⟨gr, 0, none⟩)] wr fun e w' => e = .returned (.bool false) ∧ Hid (RSt w' gr a' M ca (some q) ∧ wr.grownBy w' (some gr))) := KD.out wr (some q) HS.out.1 HS.out.2
          have KA2 : Hid (∀ W, RSt W gr a' M ca (some q) → w1.grownBy W (some gr) → Calls Try.prog 78 #[.pointer (some ⟨gr, 0, none⟩)] W fun e w' => e = .returned (.int .i64 q) ∧ Hid (RSt w' gr a' M ca (some q) ∧ W.grownBy w' (some gr))) := fun W g1 g2 => KA.out W (some q) g1 g2
          have HZ : Hid (nsz out ≤ 1000000000000) := by
            have : ∀ l : List ByteArray, (∀ s ∈ l, s.size ≤ 255) → nsz l ≤ 256 * l.length + 1 := by
              intro l
              induction l with
              | nil => intro _; simp [nsz]
              | cons x l ih => intro h; have := ih (fun s hs => h s (by simp [hs])); have := h x (by simp); simp only [nsz, List.length_cons]; omega
            have := this out HW.out.2
            show _ ≤ _
            omega
          have e := HX.out
          simp only at e
          have HXX : Hid (R = if nck out = 0 then (out, ((p0 + q : Nat) : Int), 0) else ([], 0, 8)) := e
          clear e HX KD KA
          go_wp2_with fail
          refine KD2.out.mono ?_
          rintro e w2 ⟨rfl, H2⟩
          have hO2 := HO.out.1.keepOff H2.out.2 HE.out.2.2.2.2.1
          have hnm : Nm w2 ao out.length out := ⟨by have := hO2.rd out.length; rw [HO.out.2] at this; exact this, rfl, HZ.out⟩
          have KC : Hid (Calls Try.prog 11 #[.slice ao out.length yl] w2 fun e w' => e = .returned (.int .i64 (nck out)) ∧ w' = w2) := pm_check yl hnm
          have HO3 : Hid (OwnT w1.heap.size w2 (.slice ao out.length yl) out.length ys 1000000000000) := hO2
          have HG2 : Hid (RSt w2 gr a' M ca (some q) ∧ w1.grownBy w2 (some gr)) := ⟨H2.out.1, grown_two HS.out.2 H2.out.2⟩
          clear hO2 hnm KD2 H2
          by_cases hk : nck out = 0
          · rw [hk] at KC
            have e := HXX.out
            rw [if_pos hk] at e
            subst e
            clear hk HXX
            have hadd : IntKind.i64.wrap ((p0 : Int) + (q : Int)) = ((p0 + q : Nat) : Int) := by rw [IntKind.wrap_i64]; omega
            go_wp2_with fail
            refine KC.out.mono ?_
            rintro e w3 ⟨rfl, rfl⟩
            go_wp2_with fail
            refine (KA2.out _ HG2.out.1 HG2.out.2).mono ?_
            rintro e w4 ⟨rfl, H4⟩
            go_wp2
            go_ret3
            refine ⟨_, ys, rfl, (HO3.out.keepOff H4.out.2 HE.out.2.2.2.2.1).mono HE.out.2.2.2.2.2.2.1.size, HO.out.2, below_off HE.out.2.2.2.2.2.2.1 (grown_two HG2.out.2 H4.out.2) HE.out.2.2.2.2.2.1 HE.out.2.2.2.2.2.2.1.size⟩
          · have e := HXX.out
            rw [if_neg hk] at e
            subst e
            clear HXX
            generalize nck out = kk at *
            have hq : (kk != 0) = true := bne_iff_ne.2 hk
            clear hk
            go_wp2_with fail
            refine KC.out.mono ?_
            rintro e w3 ⟨rfl, rfl⟩
            go_wp2
            go_ret3
            exact rpost_none rfl (below_off HE.out.2.2.2.2.2.2.1 HG2.out.2 HE.out.2.2.2.2.2.1 HE.out.2.2.2.2.2.2.1.size)
end Go.Proofs.Ytkbpjaojgkpffaa
