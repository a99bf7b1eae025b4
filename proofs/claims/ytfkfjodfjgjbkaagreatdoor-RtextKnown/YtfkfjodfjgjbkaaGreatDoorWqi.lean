/- Texts laid together: Nxm Nxr Hj Hk Hl Hm Hp. -/
import Derived.Test.YtfkfjodfjgjbkaaGreatDoorWqh
import Derived.Deep.RegionLaw
/- The program's names: read out of octets. -/
namespace Go.Proofs.YtfkfjodfjgjbkaaGreatDoor
open Go.ChangeShapes Go.WideShapes Go.ChangeAt Go.RowKit
set_option linter.unusedVariables false
set_option linter.unusedSimpArgs false




/-- What a new reader is: its block, its own copy of the octets; all of it new. -/
def NewPost (l : List Int) (w : World) (e : Ending) (w' : World) : Prop :=
  ∃ gr a' ca, e = .returned (.pointer (some ⟨gr, 0, none⟩)) ∧ Hid (w.heap.size ≤ gr ∧ RBlk w' gr (.slice a' l.length ca) 0 false ∧ Rd w' a' l ∧ l.length ≤ ca ∧ (a' = none → ca = 0) ∧ Off a' gr ∧ (∀ y o, a' = some ⟨y, o, none⟩ → w.heap.size ≤ y ∧ y < w'.heap.size) ∧ Below w.heap.size w w')
theorem grown_app {w1 wr w2 w' : World} {gr : Nat} {v : Value} {o : Obj} (h1 : w1.grownBy wr (some gr)) (h2 : wr.grownBy w2 (some gr)) (h3 : (w2.alloc o).grownBy w' v.ownBlock) (hv : ∀ g, v.ownBlock = some g → w1.heap.size ≤ g) : w1.grownBy w' (some gr) := by
  have hz : w2.heap.size ≤ (w2.alloc o).heap.size := by simp
  refine ⟨h3.os.trans (h2.os.trans h1.os), h3.tape.trans (h2.tape.trans h1.tape), h3.output.trans (h2.output.trans h1.output), Nat.le_trans h1.size (Nat.le_trans h2.size (Nat.le_trans hz h3.size)), fun k hk hne => ?_⟩
  have hk1 := Nat.lt_of_lt_of_le hk h1.size
  have hk2 := Nat.lt_of_lt_of_le hk1 h2.size
  refine (h3.block k (Nat.lt_of_lt_of_le hk2 hz) (fun e => by have := hv k e.symm; omega)).trans ?_
  exact (Below.heap_alloc w2 o k hk2).trans ((h2.block k hk1 hne).trans (h1.block k hk hne))
theorem same_app {w1 wr w2 w' : World} {gr : Nat} {v : Value} {o : Obj} (hg : gr < w1.heap.size) (h1 : w1.grownBy wr (some gr)) (h2 : wr.grownBy w2 (some gr)) (h3 : (w2.alloc o).grownBy w' v.ownBlock) (hv : ∀ g, v.ownBlock = some g → w1.heap.size ≤ g) : w'.heap[gr]? = w2.heap[gr]? := by
  have hz : w2.heap.size ≤ (w2.alloc o).heap.size := by simp
  have hk2 := Nat.lt_of_lt_of_le (Nat.lt_of_lt_of_le hg h1.size) h2.size
  exact (h3.block gr (Nat.lt_of_lt_of_le hk2 hz) (fun e => by have := hv gr e.symm; omega)).trans (Below.heap_alloc w2 o gr hk2)
theorem OwnT.keepOff {B : Nat} {w w' : World} {v : Value} {n : Nat} {ss : List ByteArray} {M gr : Nat} (h : OwnT B w v n ss M) (hg : w.grownBy w' (some gr)) (hB : gr < B) : OwnT B w' v n ss M :=
  ⟨h.1.keep fun g e hlt => hg.block g hlt (fun e' => by have := h.1.lt g e; have : g = gr := Option.some.inj e'; omega), h.2⟩
theorem grown_two {w1 wr w2 : World} {gr : Nat} (h1 : w1.grownBy wr (some gr)) (h2 : wr.grownBy w2 (some gr)) : w1.grownBy w2 (some gr) :=
  ⟨h2.os.trans h1.os, h2.tape.trans h1.tape, h2.output.trans h1.output, Nat.le_trans h1.size h2.size, fun k hk hne => (h2.block k (Nat.lt_of_lt_of_le hk h1.size) hne).trans (h1.block k hk hne)⟩
theorem below_off {B gr : Nat} {w w1 w2 : World} (h : Below B w w1) (hg : w1.grownBy w2 (some gr)) (hB : B ≤ gr) (h0 : B ≤ w1.heap.size) : Below B w w2 := h.grown hg h0 (fun k e => by cases e; exact hB)
set_option maxRecDepth 100000 in
set_option maxHeartbeats 2000000 in
theorem pread_in (b o len cap p0 M : Nat) (zs : List Int) (w : World) (hr : Rd w (some ⟨b, o, none⟩) zs) (hl : zs.length = len) (hm : len ≤ 140737488355328) (hc : len ≤ cap ∧ cap ≤ 9223372036854775807) (hp0 : p0 < len) (hM : M = min (len - p0) 255) :
    Calls Tryz.prog 179 #[.slice (some ⟨b, o, none⟩) len cap, .int .i64 p0] w (RPost (nread zs p0) w) := by
  have HX : Hid (nread zs (p0 : Int) = match pgo (win zs p0) 0 [] with
    | (_, none) => ([], 0, 8)
    | (out, some q) => if nck out = 0 then (out, ((p0 + q : Nat) : Int), 0) else ([], 0, 8)) := nread_pgo zs hr.2 p0 (by omega)
  have HWL : Hid ((win zs p0).length = M) := by show _ = _; rw [win_len, hl, hM]; omega
  have HWB : Hid (∀ z ∈ win zs p0, 0 ≤ z ∧ z ≤ 255) := fun z hz => hr.2 z (List.mem_of_mem_drop (List.mem_of_mem_take hz))
  have KN : Hid (∀ N, N = M → Calls Tryz.prog 152 #[.slice (some ⟨b, o + p0, none⟩) N (cap - p0)] w (NewPost (win zs p0) w)) := by
    intro N hN
    subst hN
    have hcut : Rd w (some ⟨b, o + p0, none⟩) (win zs p0) := by
      have := hr.cut p0 N (by omega) (a' := some ⟨b, o + p0, none⟩) (fun _ b' o' e => by cases e; rfl)
      have e : (zs.drop p0).take N = win zs p0 := by
        unfold win
        rw [hM, List.take_eq_take_iff, List.length_drop, hl]
        omega
      rw [e] at this
      exact this
    have := new_any ⟨b, o + p0, none⟩ (cap - p0) (win zs p0) w hcut (by rw [HWL.out]; omega)
    rw [HWL.out] at this
    unfold NewPost
    rw [HWL.out]
    exact this
  generalize win zs p0 = l at *
  obtain ⟨R, hR⟩ : ∃ R, nread zs (p0 : Int) = R := ⟨_, rfl⟩
  rw [hR] at HX ⊢
  clear hr hl hR
  have h1 : ¬ (p0 : Int) < 0 := by omega
  have h2 : ¬ (len : Int) ≤ (p0 : Int) := by omega
  have h3 : (p0 : Int) ≤ (len : Int) := by omega
  have h4 : (p0 : Int) ≤ (cap : Int) := by omega
  have h5 : ¬ cap = p0 := by omega
  go_enter Tryz.func179, Tryz.ntmps179
  go_wp2_with fail
  all_goals
    refine (KN.out _ ?_).mono ?_
    · omega
    rintro e w1 ⟨gr, a', ca, rfl, H1⟩
    obtain ⟨q1, q2, q3, q4, q5, q6, q7, q8⟩ := H1.out
    rw [HWL.out] at q2 q4
    have HE : Hid (Rd w1 a' l ∧ M ≤ ca ∧ (a' = none → ca = 0) ∧ Off a' gr ∧ gr < w1.heap.size ∧ w.heap.size ≤ gr ∧ Below w.heap.size w w1 ∧ (∀ y o, a' = some ⟨y, o, none⟩ → y < w1.heap.size)) := ⟨q3, q4, q5, q6, q2.lt, q1, q8, fun y o h => (q7 y o h).2⟩
    have HS0 : Hid (RSt w1 gr a' M ca (some 0) ∧ w1.grownBy w1 (some gr)) := ⟨⟨q2, Nat.zero_le _⟩, World.grownBy.refl _ _⟩
    have hM2 : M ≤ 255 := by omega
    have KB : Hid (∀ W st, RSt W gr a' M ca st → w1.grownBy W (some gr) → Calls Tryz.prog 183 #[.pointer (some ⟨gr, 0, none⟩)] W fun e w' => e = .returned (.int .i64 (val (tk l st 1))) ∧ Hid (RSt w' gr a' M ca (mv M st 1) ∧ W.grownBy w' (some gr))) := fun W st g1 g2 => rbyte_any gr a' M ca l st W g1 (HE.out.1.grown g2 HE.out.2.2.2.1) HWL.out HE.out.2.1 (by omega) HE.out.2.2.1 HE.out.2.2.2.1
    have KT : Hid (∀ W st n, RSt W gr a' M ca st → w1.grownBy W (some gr) → Calls Tryz.prog 156 #[.pointer (some ⟨gr, 0, none⟩), .int .i64 n] W fun e w' => ∃ v ys, e = .returned v ∧ Hid (Own W.heap.size w' v (tk l st n).length ys ∧ ys.take (tk l st n).length = tk l st n ∧ RSt w' gr a' M ca (mv M st n) ∧ W.grownBy w' (some gr))) := fun W st n g1 g2 => rtake_any gr a' M ca l st n W g1 (HE.out.1.grown g2 HE.out.2.2.2.1) HWL.out HE.out.2.1 (by omega) HE.out.2.2.1 HE.out.2.2.2.1
    have KD : Hid (∀ W st, RSt W gr a' M ca st → w1.grownBy W (some gr) → Calls Tryz.prog 158 #[.pointer (some ⟨gr, 0, none⟩)] W fun e w' => e = .returned (.bool st.isNone) ∧ Hid (RSt w' gr a' M ca st ∧ W.grownBy w' (some gr))) := fun W st g1 g2 => rbad_any gr a' M ca l st W g1 (HE.out.1.grown g2 HE.out.2.2.2.1) HWL.out HE.out.2.1 (by omega) HE.out.2.2.1 HE.out.2.2.2.1
    have KA : Hid (∀ W st, RSt W gr a' M ca st → w1.grownBy W (some gr) → Calls Tryz.prog 180 #[.pointer (some ⟨gr, 0, none⟩)] W fun e w' => e = .returned (.int .i64 (pos st)) ∧ Hid (RSt w' gr a' M ca st ∧ W.grownBy w' (some gr))) := fun W st g1 g2 => rat_any gr a' M ca l st W g1 (HE.out.1.grown g2 HE.out.2.2.2.1) HWL.out HE.out.2.1 (by omega) HE.out.2.2.1 HE.out.2.2.2.1
    clear H1 q1 q2 q3 q4 q5 q6 q7 q8 KN
    go_wp2_with fail
    refine (KB.out _ _ HS0.out.1 HS0.out.2).mono ?_
    rintro e w2 ⟨rfl, H2⟩
    have HI0 : Hid (pgo l 0 [] = aft l (mv M (some 0) 1) (val (tk l (some 0) 1)) [] ∧ (0 < val (tk l (some 0) 1) → ∃ p, mv M (some 0) 1 = some p ∧ ([] : List ByteArray).length < p ∧ p ≤ M) ∧ 0 ≤ val (tk l (some 0) 1) ∧ val (tk l (some 0) 1) ≤ 255) := by
      refine ⟨?_, ?_, nb_bd l HWB.out _⟩
      · have := pgo_aft l 0 []
        rw [HWL.out] at this
        exact this
      · intro hz
        obtain ⟨p, e1, e2, e3⟩ := nb_pos l (some 0) hz
        rw [HWL.out] at e2 e3
        exact ⟨p + 1, e2, by simp, by omega⟩
    generalize val (tk l (some 0) 1) = z0 at *
    generalize mv M (some 0) 1 = st0 at *
    go_wp2_with fail
    go_loopw [9, 10] (fun v x wr => ∃ (z : Int) (st : Option Nat) (out : List ByteArray), x = .int .i64 z ∧ 0 ≤ z ∧ z ≤ 255 ∧ out.length ≤ 256 ∧ Hid (pgo l 0 [] = aft l st z out) ∧ Hid (0 < z → ∃ p, st = some p ∧ out.length < p ∧ p ≤ M) ∧ Hid (RSt wr gr a' M ca st ∧ w1.grownBy wr (some gr)) ∧ Hid ((∃ ys, OwnT w1.heap.size wr v out.length ys 1000000000000 ∧ ys.take out.length = out) ∧ ∀ s ∈ out, s.size ≤ 255)) (fun v _ _ => match v with | .slice _ n _ => 300 - n | _ => 0)
    case atStart => exact ⟨z0, st0, [], rfl, HI0.out.2.2.1, HI0.out.2.2.2, by simp, HI0.out.1, HI0.out.2.1, H2, ⟨[], OwnT.nil _ _ _, rfl⟩, by simp⟩
    case round =>
      clear HI0 H2 HS0
      obtain ⟨z, st, out, rfl, hz0, hz255, hol, HG, HP, HS, HW⟩ := hrel
      obtain ⟨ys, hO, hT⟩ := HW.out.1
      obtain ⟨ao, hv, hao⟩ := hO.shape
      subst hv
      have HO : Hid (OwnT w1.heap.size wr (.slice ao out.length ys.length) out.length ys 1000000000000 ∧ ys.take out.length = out) := ⟨hO, hT⟩
      clear hO hT hao
      generalize hyl : ys.length = yl at *
      clear hyl
      by_cases hz : 0 < z
      · obtain ⟨p, rfl, hop, hpM⟩ := HP.out hz
        have HST : Hid (pgo l 0 [] = aft l (mv M (mv M (some p) z) 1) (val (tk l (mv M (some p) z) 1)) (out ++ [lb (tk l (some p) z)])) := by
          have := aft_step l p z out hz
          rw [HWL.out] at this
          show _ = _
          rw [HG.out, this]
        have HNX : Hid ((0 < val (tk l (mv M (some p) z) 1) → ∃ p2, mv M (mv M (some p) z) 1 = some p2 ∧ (out ++ [lb (tk l (some p) z)]).length < p2 ∧ p2 ≤ M) ∧ 0 ≤ val (tk l (mv M (some p) z) 1) ∧ val (tk l (mv M (some p) z) 1) ≤ 255) := by
          refine ⟨?_, nb_bd l HWB.out _⟩
          intro h
          obtain ⟨p2, e1, e2, e3⟩ := nb_pos l _ h
          rw [HWL.out] at e2 e3
          refine ⟨p2 + 1, e2, ?_, by omega⟩
          unfold mv at e1
          simp only at e1
          by_cases hf : 0 ≤ z ∧ (p : Int) + z ≤ M
          · rw [if_pos hf] at e1
            have : p + z.toNat = p2 := by simpa using e1
            rw [List.length_append, List.length_singleton]
            omega
          · rw [if_neg hf] at e1
            cases e1
        have hfs : (lb (tk l (some p) z)).size ≤ 255 := by
          have := tk_len l (some p) z.toNat
          rw [show ((z.toNat : Nat) : Int) = z by omega] at this
          rw [lb_size]
          omega
        have KTz : Hid (Calls Tryz.prog 156 #[.pointer (some ⟨gr, 0, none⟩), .int .i64 z] wr fun e w' => ∃ v ys, e = .returned v ∧ Hid (Own wr.heap.size w' v (tk l (some p) z).length ys ∧ ys.take (tk l (some p) z).length = tk l (some p) z ∧ RSt w' gr a' M ca (mv M (some p) z) ∧ wr.grownBy w' (some gr))) := KT.out wr (some p) z HS.out.1 HS.out.2
        have HLB : Hid (∀ W ao n c, Rd W ao (tk l (some p) z) → (tk l (some p) z).length = n → (convert 27 9 (.slice ao n c)).run Tryz.prog W = .ok (.string (lb (tk l (some p) z))) W) := fun W ao n c g1 g2 => conv_rd ao n c _ W g1 g2
        have KB2 : Hid (∀ W, RSt W gr a' M ca (mv M (some p) z) → w1.grownBy W (some gr) → Calls Tryz.prog 183 #[.pointer (some ⟨gr, 0, none⟩)] W fun e w' => e = .returned (.int .i64 (val (tk l (mv M (some p) z) 1))) ∧ Hid (RSt w' gr a' M ca (mv M (mv M (some p) z) 1) ∧ W.grownBy w' (some gr))) := fun W => KB.out W _
        generalize val (tk l (mv M (some p) z) 1) = z2 at *
        generalize mv M (mv M (some p) z) 1 = st2 at *
        generalize mv M (some p) z = stz at *
        generalize tk l (some p) z = tz at *
        generalize lb tz = f at *
        obtain ⟨n2, hn2⟩ : ∃ n, tz.length = n := ⟨_, rfl⟩
        rw [hn2] at KTz
        clear KB KT KD KA HG HP
        go_wp2_with fail
        refine KTz.out.mono ?_
        rintro e w2 ⟨v2, zs2, rfl, H2⟩
        obtain ⟨ao2, hv2, hA2⟩ := H2.out.1.addr
        subst hv2
        have hcv : ∀ c, (convert 27 9 (.slice ao2 n2 c)).run Tryz.prog w2 = .ok (.string f) w2 := fun c => HLB.out w2 ao2 _ _ (by have := hA2.rdTake n2; rw [H2.out.2.1] at this; exact this) hn2
        have HO2 : Hid (OwnT w1.heap.size (w2.alloc (.cells #[.string f] 9)) (.slice ao out.length yl) out.length ys 1000000000000 ∧ ys.take out.length = out) := ⟨(HO.out.1.keepOff H2.out.2.2.2 HE.out.2.2.2.2.1).below ((Below.refl _ _).alloc (Nat.le_refl _) _), HO.out.2⟩
        have HZ2 : Hid (w1.heap.size ≤ (w2.alloc (.cells #[.string f] 9)).heap.size) := by have := HS.out.2.size; have := H2.out.2.2.2.size; show _ ≤ _; simp; omega
        clear KTz HLB hA2
        generalize zs2.length = c2 at *
        go_wp2_with (at_builtin; refine wpList_append_T tyN _ rfl _ _ 45 9 Tryz.underlying45 rfl w1.heap.size _ out.length ys 1000000000000 rfl HO2.out.1 (some ⟨w2.heap.size, 0, none⟩) 1 1 [f] rfl (one_rdT w2 f) rfl (by intro s hs; simp at hs; subst hs; omega) (by omega) HZ2.out ?_; intro v' w' ys' hO' hT' hG'; have HG2 : Hid ((w2.alloc (.cells #[.string f] 9)).grownBy w' (Value.slice ao out.length yl).ownBlock) := hG'; clear hG')
        have hown := HO.out.1.1.lt
        have HR3 : Hid (RSt w' gr a' M ca stz ∧ w1.grownBy w' (some gr)) := ⟨H2.out.2.2.1.same (same_app HE.out.2.2.2.2.1 HS.out.2 H2.out.2.2.2 HG2.out hown), grown_app HS.out.2 H2.out.2.2.2 HG2.out hown⟩
        refine (KB2.out _ HR3.out.1 HR3.out.2).mono ?_
        rintro e w4 ⟨rfl, H4⟩
        obtain ⟨ao', hv', _⟩ := hO'.out.shape
        subst hv'
        go_wp2
        refine ⟨⟨z2, st2, out ++ [f], rfl, HNX.out.2.1, HNX.out.2.2, by rw [List.length_append, List.length_singleton]; omega, HST, HNX.out.1, ⟨H4.out.1, grown_two HR3.out.2 H4.out.2⟩, ⟨ys', ?_, ?_⟩, ?_⟩, ?_⟩
        · rw [List.length_append]; exact hO'.out.keepOff H4.out.2 HE.out.2.2.2.2.1
        · rw [List.length_append]; exact hT'.out.trans (by rw [HO2.out.2])
        · intro s hs
          rcases List.mem_append.1 hs with hs | hs
          · exact HW.out.2 s hs
          · simp at hs; subst hs; exact hfs
        · simp; omega
      · obtain rfl : z = 0 := by omega
        have hR : pgo l 0 [] = (out, st) := HG.out
        rw [hR] at HX
        clear hR HG HP KB KT
        cases st with
        | none =>
          have e := HX.out
          simp only at e
          subst e
          have KDz := KD.out wr none HS.out.1 HS.out.2
          have KD2 : Hid (Calls Tryz.prog 158 #[.pointer (some ⟨gr, 0, none⟩)] wr fun e w' => e = .returned (.bool true) ∧ Hid (RSt w' gr a' M ca none ∧ wr.grownBy w' (some gr))) := KDz
          clear KDz HX KD KA
          go_wp2_with fail
          refine KD2.out.mono ?_
          rintro e w2 ⟨rfl, H2⟩
          go_wp2
          go_ret3
          exact rpost_none rfl (below_off (below_off HE.out.2.2.2.2.2.2.1 HS.out.2 HE.out.2.2.2.2.2.1 HE.out.2.2.2.2.2.2.1.size) H2.out.2 HE.out.2.2.2.2.2.1 (Nat.le_trans HE.out.2.2.2.2.2.2.1.size HS.out.2.size))
        | some q =>
          have hqM : q ≤ M := HS.out.1.2
          have KD2 : Hid (Calls Tryz.prog 158 #[.pointer (some ⟨gr, 0, none⟩)] wr fun e w' => e = .returned (.bool false) ∧ Hid (RSt w' gr a' M ca (some q) ∧ wr.grownBy w' (some gr))) := KD.out wr (some q) HS.out.1 HS.out.2
          have KA2 : Hid (∀ W, RSt W gr a' M ca (some q) → w1.grownBy W (some gr) → Calls Tryz.prog 180 #[.pointer (some ⟨gr, 0, none⟩)] W fun e w' => e = .returned (.int .i64 q) ∧ Hid (RSt w' gr a' M ca (some q) ∧ W.grownBy w' (some gr))) := fun W g1 g2 => KA.out W (some q) g1 g2
          have HZ : Hid (nsz out ≤ 1000000000000) := by
            have : ∀ l : List ByteArray, (∀ s ∈ l, s.size ≤ 255) → nsz l ≤ 256 * l.length + 1 := by
              intro l
              induction l with
              | nil => intro _; simp [nsz]
              | cons x l ih => intro h; have := ih (fun s hs => h s (by simp [hs])); have := h x (by simp); simp only [nsz, List.length_cons]; omega
            have := this out HW.out.2
            show _ ≤ _
            omega
          have e := HX.out
          simp only at e
          have HXX : Hid (R = if nck out = 0 then (out, ((p0 + q : Nat) : Int), 0) else ([], 0, 8)) := e
          clear e HX KD KA
          go_wp2_with fail
          refine KD2.out.mono ?_
          rintro e w2 ⟨rfl, H2⟩
          have hO2 := HO.out.1.keepOff H2.out.2 HE.out.2.2.2.2.1
          have hnm : Nm w2 ao out.length out := ⟨by have := hO2.rd out.length; rw [HO.out.2] at this; exact this, rfl, HZ.out⟩
          have KC : Hid (Calls Tryz.prog 25 #[.slice ao out.length yl] w2 fun e w' => e = .returned (.int .i64 (nck out)) ∧ w' = w2) := pm_check yl hnm
          have HO3 : Hid (OwnT w1.heap.size w2 (.slice ao out.length yl) out.length ys 1000000000000) := hO2
          have HG2 : Hid (RSt w2 gr a' M ca (some q) ∧ w1.grownBy w2 (some gr)) := ⟨H2.out.1, grown_two HS.out.2 H2.out.2⟩
          clear hO2 hnm KD2 H2
          by_cases hk : nck out = 0
          · rw [hk] at KC
            have e := HXX.out
            rw [if_pos hk] at e
            subst e
            clear hk HXX
            have hadd : IntKind.i64.wrap ((p0 : Int) + (q : Int)) = ((p0 + q : Nat) : Int) := by rw [IntKind.wrap_i64]; omega
            go_wp2_with fail
            refine KC.out.mono ?_
            rintro e w3 ⟨rfl, rfl⟩
            go_wp2_with fail
            refine (KA2.out _ HG2.out.1 HG2.out.2).mono ?_
            rintro e w4 ⟨rfl, H4⟩
            go_wp2
            go_ret3
            refine ⟨_, ys, rfl, (HO3.out.keepOff H4.out.2 HE.out.2.2.2.2.1).mono HE.out.2.2.2.2.2.2.1.size, HO.out.2, below_off HE.out.2.2.2.2.2.2.1 (grown_two HG2.out.2 H4.out.2) HE.out.2.2.2.2.2.1 HE.out.2.2.2.2.2.2.1.size⟩
          · have e := HXX.out
            rw [if_neg hk] at e
            subst e
            clear HXX
            generalize nck out = kk at *
            have hq : (kk != 0) = true := bne_iff_ne.2 hk
            clear hk
            go_wp2_with fail
            refine KC.out.mono ?_
            rintro e w3 ⟨rfl, rfl⟩
            go_wp2
            go_ret3
            exact rpost_none rfl (below_off HE.out.2.2.2.2.2.2.1 HG2.out.2 HE.out.2.2.2.2.2.1 HE.out.2.2.2.2.2.2.1.size)
end Go.Proofs.YtfkfjodfjgjbkaaGreatDoor
/- The program's names: read out of octets, at any place. -/
namespace Go.Proofs.YtfkfjodfjgjbkaaGreatDoor
open Go.ChangeShapes Go.WideShapes Go.ChangeAt Go.RowKit
set_option linter.unusedVariables false
set_option linter.unusedSimpArgs false




set_option maxRecDepth 100000 in
theorem pread_any (a : Option Addr) (len cap : Nat) (zs : List Int) (d : Int) (w : World) (h : Rd w a zs) (hl : zs.length = len) (hm : len ≤ 140737488355328) (hc : len ≤ cap ∧ cap ≤ 9223372036854775807) : Calls Tryz.prog 179 #[.slice a len cap, .int .i64 d] w (RPost (nread zs d) w) := by
  by_cases hd : d < 0 ∨ (len : Int) ≤ d
  · have hp : nread zs d = ([], 0, 2) := by unfold nread; rw [if_pos (by rw [hl]; exact hd)]
    rw [hp]
    have hd' : d < 0 ∨ (¬ d < 0 ∧ (len : Int) ≤ d) := by omega
    clear h hl hp hd
    rcases hd' with hd | ⟨hd, hd2⟩
    all_goals
      go_enter Tryz.func179, Tryz.ntmps179
      go_wp2
      go_ret3
      exact rpost_none rfl (Below.refl _ _)
  · obtain ⟨p, rfl⟩ : ∃ p : Nat, d = (p : Int) := ⟨d.toNat, by omega⟩
    rcases h.1 with h1 | ⟨b, o, rfl, _, _⟩
    · subst h1; simp at hl; omega
    · exact pread_in b o len cap p _ zs w h hl hm hc (by omega) rfl
end Go.Proofs.YtfkfjodfjgjbkaaGreatDoor
/- The program's data: numbers and names read. -/
namespace Go.Proofs.YtfkfjodfjgjbkaaGreatDoor
open Go.ChangeShapes Go.WideShapes Go.ChangeAt Go.RowKit
set_option linter.unusedVariables false
set_option linter.unusedSimpArgs false


/-- A reader over bytes, and what stays behind its making (the world Wb). -/
structure RS (Wb W : World) (g : Nat) (a : Option Addr) (len cap : Nat) (zs : List Int) (st : Option Nat) : Prop where
  rst : RSt W g a len cap st
  kp : Wb.grownBy W (some g)
  rd : Rd Wb a zs
  hl : zs.length = len
  hc : len ≤ cap
  hd : a = none → cap = 0
  off : Off a g
  gl : g < Wb.heap.size
  hm : len ≤ 65535
theorem grown2 {w1 wr w2 : World} {gr : Nat} (h1 : w1.grownBy wr (some gr)) (h2 : wr.grownBy w2 (some gr)) : w1.grownBy w2 (some gr) :=
  ⟨h2.os.trans h1.os, h2.tape.trans h1.tape, h2.output.trans h1.output, Nat.le_trans h1.size h2.size, fun k hk hne => (h2.block k (Nat.lt_of_lt_of_le hk h1.size) hne).trans (h1.block k hk hne)⟩
theorem RS.rdW {Wb W : World} {g : Nat} {a : Option Addr} {len cap : Nat} {zs : List Int} {st : Option Nat} (h : RS Wb W g a len cap zs st) : Rd W a zs := h.rd.grown h.kp h.off
theorem RS.to {Wb W W' : World} {g : Nat} {a : Option Addr} {len cap : Nat} {zs : List Int} {st st' : Option Nat} (h : RS Wb W g a len cap zs st) (h1 : RSt W' g a len cap st') (h2 : W.grownBy W' (some g)) : RS Wb W' g a len cap zs st' :=
  ⟨h1, grown2 h.kp h2, h.rd, h.hl, h.hc, h.hd, h.off, h.gl, h.hm⟩
theorem RS.app {Wb W W' : World} {g : Nat} {a : Option Addr} {len cap : Nat} {zs : List Int} {st : Option Nat} {o : Option Nat} (h : RS Wb W g a len cap zs st) (h2 : W.grownBy W' o) (ho : ∀ j, o = some j → Wb.heap.size ≤ j) : RS Wb W' g a len cap zs st := by
  have hgW : g < W.heap.size := Nat.lt_of_lt_of_le h.gl h.kp.size
  refine ⟨h.rst.same (h2.block g hgW (fun e => by have := ho g e.symm; have := h.gl; omega)), ?_, h.rd, h.hl, h.hc, h.hd, h.off, h.gl, h.hm⟩
  exact ⟨h2.os.trans h.kp.os, h2.tape.trans h.kp.tape, h2.output.trans h.kp.output, Nat.le_trans h.kp.size h2.size, fun k hk hne => (h2.block k (Nat.lt_of_lt_of_le hk h.kp.size) (fun e => by have := ho k e.symm; omega)).trans (h.kp.block k hk hne)⟩
theorem RS.below {Wb W W' : World} {g : Nat} {a : Option Addr} {len cap : Nat} {zs : List Int} {st : Option Nat} (h : RS Wb W g a len cap zs st) (h2 : Below W.heap.size W W') : RS Wb W' g a len cap zs st := h.app (o := none) (below_grown h2) (by rintro j ⟨⟩)
theorem UOwn.kept {B g : Nat} {w w' : World} {s : Sl} {us : List Nat} (h : UOwn B w s us) (hg : w.grownBy w' (some g)) (hB : g < B) : UOwn B w' s us := h.keep fun j h1 h2 => hg.block j h2 (fun e => by cases e; omega)
theorem OwnN.kept {B g : Nat} {w w' : World} {v : Value} {nss : List (List ByteArray)} (h : OwnN B w v nss) (hg : w.grownBy w' (some g)) (hB : g < B) : OwnN B w' v nss := h.keep fun j h1 h2 => hg.block j h2 (fun e => by cases e; omega)
theorem OwnN.stays {B : Nat} {w w' : World} {v : Value} {nss : List (List ByteArray)} (h : OwnN B w v nss) (hb : Below w.heap.size w w') : OwnN B w' v nss := h.keep fun j _ h2 => hb.block j h2
theorem UOwn.stays {B : Nat} {w w' : World} {s : Sl} {us : List Nat} (h : UOwn B w s us) (hb : Below w.heap.size w w') : UOwn B w' s us := h.keep fun j _ h2 => hb.block j h2
theorem Own1.stays {B : Nat} {w w' : World} {s : Sl} {nm : List ByteArray} (h : Own1 B w s nm) (hb : Below w.heap.size w w') : Own1 B w' s nm := h.keep fun j _ h2 _ => hb.block j h2
theorem Own1.kept {B g : Nat} {w w' : World} {s : Sl} {nm : List ByteArray} (h : Own1 B w s nm) (hg : w.grownBy w' (some g)) (hB : g < B) : Own1 B w' s nm := h.keep fun j h1 h2 _ => hg.block j h2 (fun e => by cases e; omega)
theorem BOwn.stays {B : Nat} {w w' : World} {s : Sl} {zs : List Int} (h : BOwn B w s zs) (hb : Below w.heap.size w w') : BOwn B w' s zs := h.keep fun j _ h2 => hb.block j h2
theorem BOwn.kept {B g : Nat} {w w' : World} {s : Sl} {zs : List Int} (h : BOwn B w s zs) (hg : w.grownBy w' (some g)) (hB : g < B) : BOwn B w' s zs := h.keep fun j h1 h2 => hg.block j h2 (fun e => by cases e; omega)
/-- A number read. -/
def pnu (zs : List Int) (st : Option Nat) (wd : Nat) : Nat := (val (tk zs st (wd : Int))).toNat
theorem pnu_bd (zs : List Int) (hb : ∀ z ∈ zs, 0 ≤ z ∧ z ≤ 255) (st : Option Nat) (wd : Nat) (hw : wd ≤ 4) : pnu zs st wd ≤ 4294967295 ∧ (pnu zs st wd : Int) = val (tk zs st (wd : Int)) := by
  have h1 := tk_len zs st wd
  have h2 := val_small4 (tk zs st (wd : Int)) (tk_bytes zs st wd hb) (by omega)
  unfold pnu
  omega
set_option maxRecDepth 100000 in
set_option maxHeartbeats 1000000 in
theorem takenum_any (Wb w : World) (g : Nat) (a : Option Addr) (len cap : Nat) (zs : List Int) (st : Option Nat) (wd : Nat) (hw : wd = 1 ∨ wd = 2 ∨ wd = 4) (h : RS Wb w g a len cap zs st) :
    Calls Tryz.prog 182 #[.pointer (some ⟨g, 0, none⟩), .int .i64 wd] w fun e w' => e = .returned (.int .u32 (pnu zs st wd : Nat)) ∧ Hid (RS Wb w' g a len cap zs (mv len st (wd : Int)) ∧ w.grownBy w' (some g)) := by
  have HS : Hid (RS Wb w g a len cap zs st) := h
  have hm : len ≤ 140737488355328 := by have := h.hm; omega
  have hbd := pnu_bd zs h.rd.2 st wd (by omega)
  rcases hw with rfl | rfl | rfl
  · obtain ⟨N, hN⟩ : ∃ N, pnu zs st 1 = N := ⟨_, rfl⟩
    have K : Hid (Calls Tryz.prog 183 #[.pointer (some ⟨g, 0, none⟩)] w fun e w' => e = .returned (.int .i64 (N : Int)) ∧ Hid (RSt w' g a len cap (mv len st 1) ∧ w.grownBy w' (some g))) := by
      have := rbyte_any g a len cap zs st w h.rst h.rdW h.hl h.hc hm h.hd h.off
      rw [← hN, hbd.2]
      exact this
    rw [hN] at hbd ⊢
    have hN4 := hbd.1
    have hNm : (N : Int) % 4294967296 = (N : Int) := by omega
    clear h hbd hN hm
    go_enter Tryz.func182, Tryz.ntmps182
    go_wp2_with fail
    refine K.out.mono ?_
    rintro e w1 ⟨rfl, H1⟩
    go_wp2
    go_ret
    exact ⟨by first | rfl | simp, HS.out.to H1.out.1 H1.out.2, H1.out.2⟩
  · obtain ⟨N, hN⟩ : ∃ N, pnu zs st 2 = N := ⟨_, rfl⟩
    have K : Hid (Calls Tryz.prog 193 #[.pointer (some ⟨g, 0, none⟩)] w fun e w' => e = .returned (.int .i64 (N : Int)) ∧ Hid (RSt w' g a len cap (mv len st 2) ∧ w.grownBy w' (some g))) := by
      have := ru16_any g a len cap zs st w h.rst h.rdW h.hl h.hc hm h.hd h.off
      rw [← hN, hbd.2]
      exact this
    rw [hN] at hbd ⊢
    have hN4 := hbd.1
    have hNm : (N : Int) % 4294967296 = (N : Int) := by omega
    clear h hbd hN hm
    go_enter Tryz.func182, Tryz.ntmps182
    go_wp2_with fail
    refine K.out.mono ?_
    rintro e w1 ⟨rfl, H1⟩
    go_wp2
    go_ret
    exact ⟨by first | rfl | simp, HS.out.to H1.out.1 H1.out.2, H1.out.2⟩
  · obtain ⟨N, hN⟩ : ∃ N, pnu zs st 4 = N := ⟨_, rfl⟩
    have K : Hid (Calls Tryz.prog 194 #[.pointer (some ⟨g, 0, none⟩)] w fun e w' => e = .returned (.int .u32 (N : Int)) ∧ Hid (RSt w' g a len cap (mv len st 4) ∧ w.grownBy w' (some g))) := by
      have := ru32_any g a len cap zs st w h.rst h.rdW h.hl h.hc hm h.hd h.off
      rw [← hN, hbd.2]
      exact this
    rw [hN]
    clear h hbd hN hm
    go_enter Tryz.func182, Tryz.ntmps182
    go_wp2_with fail
    refine K.out.mono ?_
    rintro e w1 ⟨rfl, H1⟩
    go_wp2
    go_ret
    exact ⟨by first | rfl | simp, HS.out.to H1.out.1 H1.out.2, H1.out.2⟩
/-- Numbers read one behind the other. -/
def pnus (zs : List Int) (len : Nat) : Option Nat → Nat → Nat → List Nat × Option Nat
  | st, _, 0 => ([], st)
  | st, wd, k + 1 => let r := pnus zs len st wd k; (r.1 ++ [pnu zs r.2 wd], mv len r.2 (wd : Int))
theorem pnus_len (zs : List Int) (len : Nat) (st : Option Nat) (wd : Nat) : ∀ k, (pnus zs len st wd k).1.length = k
  | 0 => rfl
  | k + 1 => by simp [pnus, pnus_len zs len st wd k]
theorem wp_nums {w : World} {ops : Array Oper} {rest : List Oper} {o : Oper} {a : Act} {Q : Exit → Act → World → Prop} (hgd : o.guard = none) (s x : Operand)
    (ho : o.op = .call { callee := .builtin .append, args := #[s, x], argTypes := #[25, 25] }) (B : Nat) (s2 : Sl) (us : List Nat) (hs : a.eval s = .slice s2.a s2.n s2.c) (hown : UOwn B w s2 us)
    (ao : Addr) (hx : a.eval x = .slice (some ao) 1 1) (u : Nat) (hr : RdV w (some ao) [.int .u32 (u : Int)]) (hu : u ≤ 4294967295) (hn : us.length ≤ 1000) (hB : B ≤ w.heap.size)
    (h : ∀ (t' : Sl) w', Hid (UOwn B w' t' (us ++ [u])) → Hid (w.grownBy w' (Value.ownBlock (.slice s2.a s2.n s2.c)) ∧ ∀ j, (Value.ownBlock (.slice s2.a s2.n s2.c)) = some j → B ≤ j) → wpList Tryz.prog ops Q rest (a.put o.dst (.slice t'.a t'.n t'.c)) w') :
    wpList Tryz.prog ops Q (o :: rest) a w := by
  obtain ⟨xs, h1, h2, h3⟩ := hown
  refine wpList_append_row tyU w hgd s x 25 ho B _ us.length xs hs h1 _ 1 [.int .u32 (u : Int)] hx (src_of Tryz.underlying25 hr rfl (by intro v hv; simp at hv; subst hv; rfl)) (by omega) (by simp only [maxLen]; omega) hB ?_
  intro v' w' xs' q1 q2 q3 q4
  obtain ⟨ao', rfl, _⟩ := q1.out.shape
  refine h ⟨ao', us.length + 1, xs'.length⟩ w' ⟨xs', by simpa using q1.out, ?_, ?_, q4.out.1 _ ⟨0, rfl, by omega, by omega⟩ h3.2 (by intro v hv; simp at hv; subst hv; exact ⟨u, rfl, by omega, by omega⟩)⟩ ⟨q3, h1.lt⟩
  · have := q2.out
    rw [h2] at this
    simpa [uv] using this
  · intro v hv
    simp only [List.mem_append, List.mem_singleton] at hv
    rcases hv with hv | rfl
    · exact h3.1 v hv
    · exact hu
set_option maxRecDepth 100000 in
set_option maxHeartbeats 2000000 in
theorem takenums_any (Wb w : World) (g : Nat) (a : Option Addr) (len cap : Nat) (zs : List Int) (st : Option Nat) (n wd : Nat) (hw : n = 0 ∨ wd = 1 ∨ wd = 2 ∨ wd = 4) (hn : n ≤ 1000) (h : RS Wb w g a len cap zs st) :
    Calls Tryz.prog 154 #[.pointer (some ⟨g, 0, none⟩), .int .i64 n, .int .i64 wd] w fun e w' => ∃ s : Sl, e = .returned (.slice s.a s.n s.c) ∧ Hid (UOwn Wb.heap.size w' s (pnus zs len st wd n).1 ∧ RS Wb w' g a len cap zs (pnus zs len st wd n).2) := by
  have HS : Hid (RS Wb w g a len cap zs st) := h
  have HBD : Hid (∀ z ∈ zs, 0 ≤ z ∧ z ≤ 255) := h.rd.2
  clear h
  go_enter Tryz.func154, Tryz.ntmps154
  go_wp2_with fail
  go_loopw [7, 9] (fun v i wr => ∃ (k : Nat) (s : Sl), k ≤ n ∧ i = .int .i64 (k : Int) ∧ v = .slice s.a s.n s.c ∧ Hid (UOwn Wb.heap.size wr s (pnus zs len st wd k).1 ∧ RS Wb wr g a len cap zs (pnus zs len st wd k).2)) (fun _ i _ => n - (intOf i).toNat)
  case atStart => exact ⟨0, ⟨none, 0, 0⟩, Nat.zero_le _, rfl, rfl, nil_uown _ _, HS.out⟩
  case round =>
    obtain ⟨k, s, hk, rfl, rfl, HG⟩ := hrel
    by_cases hlt : k < n
    · have hlt' : (k : Int) < (n : Int) := by omega
      have hw' : wd = 1 ∨ wd = 2 ∨ wd = 4 := by omega
      have hE : (pnus zs len st wd (k + 1)).1 = (pnus zs len st wd k).1 ++ [pnu zs (pnus zs len st wd k).2 wd] ∧ (pnus zs len st wd (k + 1)).2 = mv len (pnus zs len st wd k).2 (wd : Int) := ⟨rfl, rfl⟩
      have HE : Hid ((pnus zs len st wd (k + 1)).1 = (pnus zs len st wd k).1 ++ [pnu zs (pnus zs len st wd k).2 wd] ∧ (pnus zs len st wd (k + 1)).2 = mv len (pnus zs len st wd k).2 (wd : Int)) := hE
      have HLN : Hid ((pnus zs len st wd k).1.length ≤ 1000) := by rw [pnus_len]; show k ≤ 1000; omega
      clear hE
      generalize pnus zs len st wd k = r0 at *
      have K : Hid (Calls Tryz.prog 182 #[.pointer (some ⟨g, 0, none⟩), .int .i64 wd] wr fun e w' => e = .returned (.int .u32 (pnu zs r0.2 wd : Nat)) ∧ Hid (RS Wb w' g a len cap zs (mv len r0.2 (wd : Int)) ∧ wr.grownBy w' (some g))) := takenum_any Wb wr g a len cap zs r0.2 wd hw' HG.out.2
      have hub := (pnu_bd zs HBD.out r0.2 wd (by omega)).1
      generalize pnu zs r0.2 wd = u at *
      generalize mv len r0.2 (wd : Int) = st1 at *
      go_wp2_with fail
      refine K.out.mono ?_
      rintro e w1 ⟨rfl, H1⟩
      have HU5 : Hid (UOwn Wb.heap.size (w1.alloc (.cells #[.int .u32 (u : Int)] 70)) s r0.1 ∧ RS Wb (w1.alloc (.cells #[.int .u32 (u : Int)] 70)) g a len cap zs st1) := ⟨(HG.out.1.kept H1.out.2 HG.out.2.gl).stays ((Below.refl _ _).alloc (Nat.le_refl _) _), H1.out.1.below ((Below.refl _ _).alloc (Nat.le_refl _) _)⟩
      have HO5 : Hid (RdV (w1.alloc (.cells #[.int .u32 (u : Int)] 70)) (some ⟨w1.heap.size, 0, none⟩) [.int .u32 (u : Int)]) := one_u w1 u
      go_wp2_with (at_builtin; refine wp_nums rfl _ _ rfl Wb.heap.size s r0.1 rfl HU5.out.1 ⟨w1.heap.size, 0, none⟩ rfl u HO5.out hub HLN.out HU5.out.2.kp.size ?_; intro t6 W6 HG6 HX6)
      refine ⟨⟨k + 1, t6, by omega, by go_num, rfl, ?_⟩, by simp [intOf]; omega⟩
      refine ⟨by rw [HE.out.1]; exact HG6.out, by rw [HE.out.2]; exact HU5.out.2.app HX6.out.1 HX6.out.2⟩
    · have hge : ¬ (k : Int) < (n : Int) := by omega
      have hkn : k = n := by omega
      subst hkn
      go_wp2_with fail
      go_ret
      exact ⟨s, rfl, HG⟩
end Go.Proofs.YtfkfjodfjgjbkaaGreatDoor
/- The program's data: names read. -/
namespace Go.Proofs.YtfkfjodfjgjbkaaGreatDoor
open Go.ChangeShapes Go.WideShapes Go.ChangeAt Go.RowKit
set_option linter.unusedVariables false
set_option linter.unusedSimpArgs false


/-- A name read, and where the reader is then. -/
def pnm1 (zs : List Int) (len : Nat) (st : Option Nat) : List ByteArray × Option Nat := ((nread zs (pos st)).1, jm len st (if (nread zs (pos st)).2.2 = 0 then (nread zs (pos st)).2.1 else -1))
def pnms (zs : List Int) (len : Nat) (st : Option Nat) : Nat → List (List ByteArray) × Option Nat
  | 0 => ([], st)
  | k + 1 => ((pnms zs len st k).1 ++ [(pnm1 zs len (pnms zs len st k).2).1], (pnm1 zs len (pnms zs len st k).2).2)
theorem pnms_len (zs : List Int) (len : Nat) (st : Option Nat) : ∀ k, (pnms zs len st k).1.length = k
  | 0 => rfl
  | k + 1 => by simp [pnms, pnms_len zs len st k]
theorem one_n (w : World) (s : Sl) : RdV (w.alloc (.cells #[.slice s.a s.n s.c] 45)) (some ⟨w.heap.size, 0, none⟩) [.slice s.a s.n s.c] := by
  refine .inr ⟨w.heap.size, 0, rfl, by simp, fun i hi => ?_⟩
  have : i = 0 := by simp at hi; omega
  subst this
  unfold World.cell?
  rw [heap_alloc_new]
  rfl
/-- What a name's reading tells, its list's own memory told by its parts. -/
def RP2 (B : Nat) (r : List ByteArray × Int × Int) (w : World) (e : Ending) (w' : World) : Prop :=
  ∃ s : Sl, e = .returned (.tuple #[.slice s.a s.n s.c, .int .i64 r.2.1, .int .i64 r.2.2]) ∧ Hid (Own1 B w' s r.1 ∧ Below w.heap.size w w')
theorem rp2 {r : List ByteArray × Int × Int} {w : World} {e : Ending} {w' : World} {B : Nat} (hB : B ≤ w.heap.size) (h : RPost r w e w') : RP2 B r w e w' := by
  obtain ⟨v, ys, rfl, H⟩ := h
  obtain ⟨h1, h2, h3⟩ := H.out
  obtain ⟨ao, rfl, _⟩ := h1.shape
  exact ⟨⟨ao, r.1.length, ys.length⟩, rfl, ⟨ys, h1.mono hB, h2⟩, h3⟩
set_option maxRecDepth 100000 in
set_option maxHeartbeats 2000000 in
theorem takenames_any (Wb w : World) (g : Nat) (a : Option Addr) (len cap : Nat) (zs : List Int) (st : Option Nat) (n : Nat) (a0 : Option Addr) (c0 : Nat) (hn : n ≤ 1000) (hr0 : ∀ W, Wb.grownBy W (some g) → Rd W a0 zs) (hc0 : len ≤ c0 ∧ c0 ≤ 9223372036854775807) (h : RS Wb w g a len cap zs st) :
    Calls Tryz.prog 153 #[.pointer (some ⟨g, 0, none⟩), .slice a0 len c0, .int .i64 n] w fun e w' => ∃ s : Sl, e = .returned (.slice s.a s.n s.c) ∧ Hid (OwnN Wb.heap.size w' (.slice s.a s.n s.c) (pnms zs len st n).1 ∧ RS Wb w' g a len cap zs (pnms zs len st n).2) := by
  have HS : Hid (RS Wb w g a len cap zs st) := h
  have HR0 : Hid ((∀ W, Wb.grownBy W (some g) → Rd W a0 zs) ∧ zs.length = len ∧ len ≤ 65535 ∧ len ≤ c0 ∧ c0 ≤ 9223372036854775807) := ⟨hr0, h.hl, h.hm, hc0⟩
  clear h hr0 hc0
  go_enter Tryz.func153, Tryz.ntmps153
  go_wp2_with fail
  go_loopw [7, 12] (fun v i wr => ∃ (k : Nat) (s : Sl), k ≤ n ∧ i = .int .i64 (k : Int) ∧ v = .slice s.a s.n s.c ∧ Hid (OwnN Wb.heap.size wr (.slice s.a s.n s.c) (pnms zs len st k).1 ∧ RS Wb wr g a len cap zs (pnms zs len st k).2)) (fun _ i _ => n - (intOf i).toNat)
  case atStart => exact ⟨0, ⟨none, 0, 0⟩, Nat.zero_le _, rfl, rfl, OwnN.nil _ _, HS.out⟩
  case round =>
    obtain ⟨k, s, hk, rfl, rfl, HG⟩ := hrel
    by_cases hlt : k < n
    · have hlt' : (k : Int) < (n : Int) := by omega
      have HE : Hid ((pnms zs len st (k + 1)).1 = (pnms zs len st k).1 ++ [(pnm1 zs len (pnms zs len st k).2).1] ∧ (pnms zs len st (k + 1)).2 = (pnm1 zs len (pnms zs len st k).2).2) := ⟨rfl, rfl⟩
      have HLN : Hid ((pnms zs len st k).1.length ≤ 1000) := by rw [pnms_len]; show k ≤ 1000; omega
      generalize pnms zs len st k = r0 at *
      have KA : Hid (Calls Tryz.prog 180 #[.pointer (some ⟨g, 0, none⟩)] wr fun e w' => e = .returned (.int .i64 (pos r0.2)) ∧ Hid (RSt w' g a len cap r0.2 ∧ wr.grownBy w' (some g))) := rat_any g a len cap zs r0.2 wr HG.out.2.rst HG.out.2.rdW HG.out.2.hl HG.out.2.hc (by have := HG.out.2.hm; omega) HG.out.2.hd HG.out.2.off
      have KR : Hid (∀ W, Wb.grownBy W (some g) → Calls Tryz.prog 179 #[.slice a0 len c0, .int .i64 (pos r0.2)] W (RP2 Wb.heap.size (nread zs (pos r0.2)) W)) := by
        intro W hW
        obtain ⟨q1, q3, q4, q5⟩ := HR0.out
        refine (pread_any a0 len c0 zs (pos r0.2) W (q1 W hW) q3 (by omega) q5).mono ?_
        intro e w' hh
        exact rp2 hW.size hh
      have KJ : Hid (∀ W x, RS Wb W g a len cap zs r0.2 → Calls Tryz.prog 181 #[.pointer (some ⟨g, 0, none⟩), .int .i64 x] W fun e w' => e = .returned (.tuple #[]) ∧ Hid (RSt w' g a len cap (jm len r0.2 x) ∧ W.grownBy w' (some g))) := fun W x hW => rjump_any g a len cap zs r0.2 x W hW.rst hW.rdW hW.hl hW.hc (by have := hW.hm; omega) hW.hd hW.off
      have HX : Hid (pnm1 zs len r0.2 = ((nread zs (pos r0.2)).1, jm len r0.2 (if (nread zs (pos r0.2)).2.2 = 0 then (nread zs (pos r0.2)).2.1 else -1))) := (show _ = _ from rfl)
      generalize nread zs (pos r0.2) = nr at *
      obtain ⟨nm, nx, er⟩ := nr
      generalize pos r0.2 = pp at *
      simp only at KR HX
      go_wp2_with fail
      refine KA.out.mono ?_
      rintro e w1 ⟨rfl, H1⟩
      have HS1 : Hid (RS Wb w1 g a len cap zs r0.2 ∧ OwnN Wb.heap.size w1 (.slice s.a s.n s.c) r0.1) := ⟨HG.out.2.to H1.out.1 H1.out.2, HG.out.1.kept H1.out.2 HG.out.2.gl⟩
      clear KA H1
      go_wp2_with fail
      refine (KR.out _ HS1.out.1.kp).mono ?_
      rintro e w2 ⟨s2, rfl, H2⟩
      simp only at H2
      have HS2 : Hid (RS Wb w2 g a len cap zs r0.2 ∧ OwnN Wb.heap.size w2 (.slice s.a s.n s.c) r0.1 ∧ Own1 Wb.heap.size w2 s2 nm) := ⟨HS1.out.1.below H2.out.2, HS1.out.2.stays H2.out.2, H2.out.1⟩
      clear KR HS1 H2
      obtain ⟨y, hy⟩ : ∃ y, y = (if er = 0 then nx else -1) := ⟨_, rfl⟩
      have HY : Hid (pnm1 zs len r0.2 = (nm, jm len r0.2 y)) := by show _ = _; rw [hy]; exact HX.out
      clear HX
      by_cases he : er = 0
      · have he' : (er != 0) = false := by simp [he]
        rw [if_pos he] at hy
        subst hy
        clear he
        go_wp2_with fail
        refine (KJ.out _ _ HS2.out.1).mono ?_
        rintro e w3 ⟨rfl, H3⟩
        have hnb : Below w3.heap.size w3 (w3.alloc (.cells #[.slice s2.a s2.n s2.c] 45)) := (Below.refl _ _).alloc (Nat.le_refl _) _
        have HU5 : Hid (RS Wb (w3.alloc (.cells #[.slice s2.a s2.n s2.c] 45)) g a len cap zs (jm len r0.2 y) ∧ OwnN Wb.heap.size (w3.alloc (.cells #[.slice s2.a s2.n s2.c] 45)) (.slice s.a s.n s.c) r0.1 ∧ Own1 Wb.heap.size (w3.alloc (.cells #[.slice s2.a s2.n s2.c] 45)) s2 nm) := ⟨(HS2.out.1.to H3.out.1 H3.out.2).below hnb, (HS2.out.2.1.kept H3.out.2 HS2.out.1.gl).stays hnb, (HS2.out.2.2.kept H3.out.2 HS2.out.1.gl).stays hnb⟩
        have HO5 : Hid (RdV (w3.alloc (.cells #[.slice s2.a s2.n s2.c] 45)) (some ⟨w3.heap.size, 0, none⟩) [.slice s2.a s2.n s2.c]) := one_n w3 s2
        clear hnb H3 HS2
        go_wp2_with (at_builtin; refine wp_names rfl _ _ rfl Wb.heap.size (.slice s.a s.n s.c) r0.1 rfl HU5.out.2.1 ⟨w3.heap.size, 0, none⟩ rfl s2 nm HO5.out HU5.out.2.2 HLN.out HU5.out.1.kp.size ?_; intro t6 W6 HG6 HX6)
        refine ⟨⟨k + 1, t6, by omega, by go_num, rfl, ?_⟩, by simp [intOf]; omega⟩
        rw [HE.out.1, HE.out.2, HY.out]
        exact ⟨HG6.out, HU5.out.1.app HX6.out.1 HX6.out.2⟩
      · have he' : (er != 0) = true := by simp [he]
        rw [if_neg he] at hy
        subst hy
        clear he
        go_wp2_with fail
        refine (KJ.out _ _ HS2.out.1).mono ?_
        rintro e w3 ⟨rfl, H3⟩
        have hnb : Below w3.heap.size w3 (w3.alloc (.cells #[.slice s2.a s2.n s2.c] 45)) := (Below.refl _ _).alloc (Nat.le_refl _) _
        have HU5 : Hid (RS Wb (w3.alloc (.cells #[.slice s2.a s2.n s2.c] 45)) g a len cap zs (jm len r0.2 (-1)) ∧ OwnN Wb.heap.size (w3.alloc (.cells #[.slice s2.a s2.n s2.c] 45)) (.slice s.a s.n s.c) r0.1 ∧ Own1 Wb.heap.size (w3.alloc (.cells #[.slice s2.a s2.n s2.c] 45)) s2 nm) := ⟨(HS2.out.1.to H3.out.1 H3.out.2).below hnb, (HS2.out.2.1.kept H3.out.2 HS2.out.1.gl).stays hnb, (HS2.out.2.2.kept H3.out.2 HS2.out.1.gl).stays hnb⟩
        have HO5 : Hid (RdV (w3.alloc (.cells #[.slice s2.a s2.n s2.c] 45)) (some ⟨w3.heap.size, 0, none⟩) [.slice s2.a s2.n s2.c]) := one_n w3 s2
        clear hnb H3 HS2
        go_wp2_with (at_builtin; refine wp_names rfl _ _ rfl Wb.heap.size (.slice s.a s.n s.c) r0.1 rfl HU5.out.2.1 ⟨w3.heap.size, 0, none⟩ rfl s2 nm HO5.out HU5.out.2.2 HLN.out HU5.out.1.kp.size ?_; intro t6 W6 HG6 HX6)
        refine ⟨⟨k + 1, t6, by omega, by go_num, rfl, ?_⟩, by simp [intOf]; omega⟩
        rw [HE.out.1, HE.out.2, HY.out]
        exact ⟨HG6.out, HU5.out.1.app HX6.out.1 HX6.out.2⟩
    · have hge : ¬ (k : Int) < (n : Int) := by omega
      have hkn : k = n := by omega
      subst hkn
      go_wp2_with fail
      go_ret
      exact ⟨s, rfl, HG⟩
end Go.Proofs.YtfkfjodfjgjbkaaGreatDoor
/- The program's data: texts read. -/
namespace Go.Proofs.YtfkfjodfjgjbkaaGreatDoor
open Go.ChangeShapes Go.WideShapes Go.ChangeAt Go.RowKit
set_option linter.unusedVariables false
set_option linter.unusedSimpArgs false


theorem rtake2 (Wb w : World) (g : Nat) (a : Option Addr) (len cap : Nat) (zs : List Int) (st : Option Nat) (n : Int) (h : RS Wb w g a len cap zs st) :
    Calls Tryz.prog 156 #[.pointer (some ⟨g, 0, none⟩), .int .i64 n] w fun e w' => ∃ s : Sl, e = .returned (.slice s.a s.n s.c) ∧ Hid (BOwn Wb.heap.size w' s (tk zs st n) ∧ RS Wb w' g a len cap zs (mv len st n) ∧ w.grownBy w' (some g)) := by
  refine (rtake_any g a len cap zs st n w h.rst h.rdW h.hl h.hc (by have := h.hm; omega) h.hd h.off).mono ?_
  rintro e w' ⟨v, ys, rfl, H⟩
  obtain ⟨h1, h2, h3, h4⟩ := H.out
  obtain ⟨ao, rfl, _⟩ := h1.addr
  exact ⟨⟨ao, (tk zs st n).length, ys.length⟩, rfl, ⟨ys, own_mono h1 h.kp.size, h2⟩, h.to h3 h4, h4⟩
theorem wp_text1 {w : World} {ops : Array Oper} {rest : List Oper} {o : Oper} {a : Act} {Q : Exit → Act → World → Prop} (hgd : o.guard = none) (s x : Operand)
    (ho : o.op = .call { callee := .builtin .append, args := #[s, x], argTypes := #[26, 26] }) (B : Nat) (s2 : Sl) (ts : List ByteArray) (hs : a.eval s = .slice s2.a s2.n s2.c) (hown : Own1 B w s2 ts)
    (ao : Addr) (hx : a.eval x = .slice (some ao) 1 1) (u : ByteArray) (hr : RdT w (some ao) [u]) (hu : u.size ≤ 1000000000000) (hn : ts.length ≤ 1000000) (hB : B ≤ w.heap.size)
    (h : ∀ (t' : Sl) w', Hid (Own1 B w' t' (ts ++ [u])) → Hid (w.grownBy w' (Value.ownBlock (.slice s2.a s2.n s2.c)) ∧ ∀ j, (Value.ownBlock (.slice s2.a s2.n s2.c)) = some j → B ≤ j) → Hid (t'.n = ts.length + 1) → wpList Tryz.prog ops Q rest (a.put o.dst (.slice t'.a t'.n t'.c)) w') :
    wpList Tryz.prog ops Q (o :: rest) a w := by
  obtain ⟨ys, h1, h2⟩ := hown
  refine wpList_append_T tyT w hgd s x 26 9 Tryz.underlying26 ho B _ ts.length ys 1000000000000 hs h1 (some ao) 1 1 [u] hx hr rfl (by intro z hz; simp at hz; subst hz; exact hu) (by omega) hB ?_
  intro v' w' zs q1 q2 q3
  obtain ⟨ao', rfl, _⟩ := q1.out.shape
  refine h ⟨ao', ts.length + 1, zs.length⟩ w' ⟨zs, by simpa using q1.out, ?_⟩ ⟨q3, h1.1.lt⟩ rfl
  have := q2.out
  rw [h2] at this
  simpa using this
theorem FBox.grown {w w' : World} {b g : Nat} {f : Fs} (h : FBox w b f) (hg : w.grownBy w' (some g)) (hne : g < b) : FBox w' b f := by
  obtain ⟨h0, h1, h2, h3, h4, h5, h6, h7, hl⟩ := h
  have hb : w'.heap[b]? = w.heap[b]? := hg.block b hl (fun e => by cases e; omega)
  exact ⟨(World.cell?_of_block hb).trans h0, (World.cell?_of_block hb).trans h1, (World.cell?_of_block hb).trans h2, (World.cell?_of_block hb).trans h3, (World.cell?_of_block hb).trans h4, (World.cell?_of_block hb).trans h5, (World.cell?_of_block hb).trans h6, (World.cell?_of_block hb).trans h7, Nat.lt_of_lt_of_le hl hg.size⟩
theorem FBox.app {w w' : World} {b : Nat} {f : Fs} {o : Option Nat} (h : FBox w b f) (hg : w.grownBy w' o) (hne : ∀ j, o = some j → b < j) : FBox w' b f := by
  obtain ⟨h0, h1, h2, h3, h4, h5, h6, h7, hl⟩ := h
  have hb : w'.heap[b]? = w.heap[b]? := hg.block b hl (fun e => by have := hne b e.symm; omega)
  exact ⟨(World.cell?_of_block hb).trans h0, (World.cell?_of_block hb).trans h1, (World.cell?_of_block hb).trans h2, (World.cell?_of_block hb).trans h3, (World.cell?_of_block hb).trans h4, (World.cell?_of_block hb).trans h5, (World.cell?_of_block hb).trans h6, (World.cell?_of_block hb).trans h7, Nat.lt_of_lt_of_le hl hg.size⟩
theorem Own1.mono {B B' : Nat} {w : World} {s : Sl} {nm : List ByteArray} (h : Own1 B w s nm) (hB : B' ≤ B) : Own1 B' w s nm := by
  obtain ⟨ys, h1, h2⟩ := h
  exact ⟨ys, h1.mono hB, h2⟩
theorem lft_mv (len : Nat) (st : Option Nat) (n : Int) (h : ∀ k, st = some k → k ≤ len) : (lft len (mv len st n)).toNat ≤ (lft len st).toNat := by
  cases st with
  | none => simp [mv, lft]
  | some k =>
    have := h k rfl
    simp only [mv]
    by_cases hc : 0 ≤ n ∧ (k : Int) + n ≤ len
    · rw [if_pos hc]; simp only [lft]; omega
    · rw [if_neg hc]; simp [lft]
theorem lft_one (len : Nat) (st : Option Nat) (h : ∀ k, st = some k → k ≤ len) (hp : 0 < lft len st) : (lft len (mv len st 1)).toNat + 1 ≤ (lft len st).toNat ∧ ∀ k, mv len st 1 = some k → k ≤ len := by
  cases st with
  | none => simp [lft] at hp
  | some k =>
    have := h k rfl
    simp only [lft] at hp
    have hc : (0 : Int) ≤ 1 ∧ (k : Int) + 1 ≤ (len : Int) := by omega
    simp only [mv]
    rw [if_pos hc]
    constructor
    · simp [lft]; omega
    · intro j hj; injection hj with hj; omega
theorem mv_le (len : Nat) (st : Option Nat) (n : Int) : ∀ k, mv len st n = some k → k ≤ len := by
  intro k hk
  unfold mv at hk
  split at hk
  · split at hk
    · injection hk with hk; omega
    · cases hk
  · cases hk
theorem tk_size (zs : List Int) (len : Nat) (hl : zs.length = len) (st : Option Nat) (n : Int) : (tk zs st n).length ≤ len := by
  unfold tk
  split
  · split
    · simp; omega
    · simp
  · simp
/-- Texts read up to the end. -/
def ptxF (zs : List Int) (len : Nat) : Nat → Option Nat → List ByteArray × Option Nat
  | 0, st => ([], st)
  | k + 1, st => if 0 < lft len st then (lb (tk zs (mv len st 1) (val (tk zs st 1))) :: (ptxF zs len k (mv len (mv len st 1) (val (tk zs st 1)))).1, (ptxF zs len k (mv len (mv len st 1) (val (tk zs st 1)))).2) else ([], st)
theorem ptxF_end (zs : List Int) (len k : Nat) (st : Option Nat) (h : ¬ 0 < lft len st) : ptxF zs len k st = ([], st) := by
  cases k with
  | zero => rfl
  | succ k => unfold ptxF; rw [if_neg h]
def lenOf : Value → Nat
  | .slice _ n _ => n
  | _ => 0
theorem Own1.n {B : Nat} {w : World} {s : Sl} {nm : List ByteArray} (h : Own1 B w s nm) : s.n = nm.length := h.rd.len.symm
set_option maxRecDepth 100000 in
set_option maxHeartbeats 4000000 in
theorem taketexts_txt (Wb w : World) (g : Nat) (a : Option Addr) (len cap : Nat) (zs : List Int) (st : Option Nat) (nn nf nu wd tg : Nat) (nr : Int) (hbd : ∀ z ∈ zs, 0 ≤ z ∧ z ≤ 255) (h : RS Wb w g a len cap zs st) :
    Calls Tryz.prog 155 #[.agg #[.int .i64 nn, .int .i64 nf, .int .i64 nu, .int .i64 wd, .int .i64 (-1), .int .i64 tg, .int .i64 0, .int .i64 nr], .pointer (some ⟨g, 0, none⟩)] w fun e w' => ∃ s : Sl, e = .returned (.slice s.a s.n s.c) ∧ Hid (Own1 Wb.heap.size w' s (ptxF zs len (len + 1) st).1 ∧ RS Wb w' g a len cap zs (ptxF zs len (len + 1) st).2) := by
  have HB0 : Below w.heap.size w (w.alloc (.cells #[.int .i64 nn, .int .i64 nf, .int .i64 nu, .int .i64 wd, .int .i64 (-1), .int .i64 tg, .int .i64 0, .int .i64 nr] 90)) := (Below.refl _ _).alloc (Nat.le_refl _) _
  have HS : Hid (RS Wb (w.alloc (.cells #[.int .i64 nn, .int .i64 nf, .int .i64 nu, .int .i64 wd, .int .i64 (-1), .int .i64 tg, .int .i64 0, .int .i64 nr] 90)) g a len cap zs st) := h.below HB0
  have HX : Hid (FBox (w.alloc (.cells #[.int .i64 nn, .int .i64 nf, .int .i64 nu, .int .i64 wd, .int .i64 (-1), .int .i64 tg, .int .i64 0, .int .i64 nr] 90)) w.heap.size ⟨nn, nf, nu, wd, -1, tg, 0, nr⟩) := FBox.new w ⟨nn, nf, nu, wd, -1, tg, 0, nr⟩
  have hbg : Wb.heap.size ≤ w.heap.size := h.kp.size
  have hgl := h.gl
  have hlm := h.hm
  have HBD : Hid (∀ z ∈ zs, 0 ≤ z ∧ z ≤ 255) := hbd
  obtain ⟨PR, hPR⟩ : ∃ PR, ptxF zs len (len + 1) st = PR := ⟨_, rfl⟩
  have HPR : Hid (ptxF zs len (len + 1) st = PR) := hPR
  rw [hPR]
  have hst0 : ∀ k, st = some k → k ≤ len := h.rst.le
  have HST : Hid ((lft len st).toNat ≤ len) := by
    show _ ≤ _
    cases st with
    | none => simp [lft]
    | some k => have := hst0 k rfl; simp [lft]
  clear h HB0 hPR hbd hst0
  go_enter Tryz.func155, Tryz.ntmps155
  go_upto_region 1 with fail
  generalize (w.alloc (.cells #[.int .i64 nn, .int .i64 nf, .int .i64 nu, .int .i64 wd, .int .i64 (-1), .int .i64 tg, .int .i64 0, .int .i64 nr] 90)) = W1 at *
  obtain ⟨b, hb⟩ : ∃ b, b = w.heap.size := ⟨_, rfl⟩
  rw [← hb] at HX hbg ⊢
  have Hb : Hid (b = w.heap.size) := hb
  clear hb
  obtain ⟨B1, hB1⟩ : ∃ B1, B1 = W1.heap.size := ⟨_, rfl⟩
  have HB1 : Hid (B1 = W1.heap.size ∧ b < B1 ∧ Wb.heap.size ≤ B1) := ⟨hB1, by have := HX.out.2.2.2.2.2.2.2.2; omega, by have := HX.out.2.2.2.2.2.2.2.2; omega⟩
  clear hB1
  go_wp2_with fail
  go_loopw [5] (fun v wr => ∃ (s : Sl) (l : List ByteArray) (st' : Option Nat) (k : Nat), v = .slice s.a s.n s.c ∧ s.n ≤ len ∧ Hid (s.n = l.length ∧ l.length + (lft len st').toNat ≤ len ∧ (lft len st').toNat ≤ k) ∧ Hid (PR = (l ++ (ptxF zs len k st').1, (ptxF zs len k st').2)) ∧ Hid (Own1 B1 wr s l ∧ RS Wb wr g a len cap zs st' ∧ FBox wr b ⟨nn, nf, nu, wd, -1, tg, 0, nr⟩ ∧ B1 ≤ wr.heap.size)) (fun v _ => len + 1 - lenOf v)
  case atStart => exact ⟨⟨none, 0, 0⟩, [], st, len + 1, rfl, Nat.zero_le _, ⟨rfl, by have := HST.out; simp; omega, by have := HST.out; omega⟩, by show PR = _; rw [← HPR.out]; simp, nil_own1 _ _, HS.out, HX.out, by have := HB1.out; omega⟩
  case round =>
    obtain ⟨s, l, st', k, rfl, hsn, HN, HP, HG⟩ := hrel
    have s4 := HG.out.2.2.1.2.2.2.2.1
    have s6 := HG.out.2.2.1.2.2.2.2.2.2.1
    simp only at s4 s6
    have KL : Hid (Calls Tryz.prog 157 #[.pointer (some ⟨g, 0, none⟩)] wr fun e w' => e = .returned (.int .i64 (lft len st')) ∧ Hid (RSt w' g a len cap st' ∧ wr.grownBy w' (some g))) := rleft_any g a len cap zs st' wr HG.out.2.1.rst HG.out.2.1.rdW HG.out.2.1.hl HG.out.2.1.hc (by omega) HG.out.2.1.hd HG.out.2.1.off
    have hq1 : ¬ (s.n : Int) < -1 := by omega
    by_cases hlf : 0 < lft len st'
    · have HMV := lft_one len st' HG.out.2.1.rst.le hlf
      have HMV2 := lft_mv len (mv len st' 1) (val (tk zs st' 1)) HMV.2
      have hN := HN.out
      obtain ⟨k', rfl⟩ : ∃ k', k = k' + 1 := ⟨k - 1, by omega⟩
      have HP2 : Hid (PR = ((l ++ [lb (tk zs (mv len st' 1) (val (tk zs st' 1)))]) ++ (ptxF zs len k' (mv len (mv len st' 1) (val (tk zs st' 1)))).1, (ptxF zs len k' (mv len (mv len st' 1) (val (tk zs st' 1)))).2)) := by
        show _ = _
        rw [HP.out]
        conv => lhs; unfold ptxF
        rw [if_pos hlf]
        simp
      have HN2 : Hid (l.length + 1 + (lft len (mv len (mv len st' 1) (val (tk zs st' 1)))).toNat ≤ len ∧ (lft len (mv len (mv len st' 1) (val (tk zs st' 1)))).toNat ≤ k' ∧ s.n = l.length) := ⟨by omega, by omega, hN.1⟩
      have hls : (lb (tk zs (mv len st' 1) (val (tk zs st' 1)))).size ≤ 1000000000000 := by rw [lb_size]; have := tk_size zs len HG.out.2.1.hl (mv len st' 1) (val (tk zs st' 1)); omega
      have KB : Hid (∀ W, RS Wb W g a len cap zs st' → Calls Tryz.prog 183 #[.pointer (some ⟨g, 0, none⟩)] W fun e w' => e = .returned (.int .i64 (val (tk zs st' 1))) ∧ Hid (RSt w' g a len cap (mv len st' 1) ∧ W.grownBy w' (some g))) := fun W hW => rbyte_any g a len cap zs st' W hW.rst hW.rdW hW.hl hW.hc (by omega) hW.hd hW.off
      generalize val (tk zs st' 1) = z at *
      generalize mv len st' 1 = st1 at *
      have KT : Hid (∀ W, RS Wb W g a len cap zs st1 → Calls Tryz.prog 156 #[.pointer (some ⟨g, 0, none⟩), .int .i64 z] W fun e w' => ∃ s : Sl, e = .returned (.slice s.a s.n s.c) ∧ Hid (BOwn Wb.heap.size w' s (tk zs st1 z) ∧ RS Wb w' g a len cap zs (mv len st1 z) ∧ W.grownBy w' (some g))) := fun W hW => rtake2 Wb W g a len cap zs st1 z hW
      have HLB : Hid (∀ W ao n c, Rd W ao (tk zs st1 z) → (tk zs st1 z).length = n → (convert 27 9 (.slice ao n c)).run Tryz.prog W = .ok (.string (lb (tk zs st1 z))) W) := fun W ao n c g1 g2 => conv_rd ao n c _ W g1 g2
      generalize mv len st1 z = st2 at *
      generalize tk zs st1 z = tks at *
      generalize hfl : lb tks = f at *
      clear HMV HMV2 hN HN HP hfl
      go_wp2_with fail
      refine KL.out.mono ?_
      rintro e w1 ⟨rfl, H1⟩
      have HS1 : Hid (Own1 B1 w1 s l ∧ RS Wb w1 g a len cap zs st' ∧ FBox w1 b ⟨nn, nf, nu, wd, -1, tg, 0, nr⟩ ∧ B1 ≤ w1.heap.size) := ⟨HG.out.1.kept H1.out.2 (by have := HB1.out; omega), HG.out.2.1.to H1.out.1 H1.out.2, HG.out.2.2.1.grown H1.out.2 (by omega), Nat.le_trans HG.out.2.2.2 H1.out.2.size⟩
      clear KL H1 s4 s6 HG
      go_wp2_with fail
      refine (KB.out _ HS1.out.2.1).mono ?_
      rintro e w2 ⟨rfl, H2⟩
      have HS2 : Hid (Own1 B1 w2 s l ∧ RS Wb w2 g a len cap zs st1 ∧ FBox w2 b ⟨nn, nf, nu, wd, -1, tg, 0, nr⟩ ∧ B1 ≤ w2.heap.size) := ⟨HS1.out.1.kept H2.out.2 (by have := HB1.out; omega), HS1.out.2.1.to H2.out.1 H2.out.2, HS1.out.2.2.1.grown H2.out.2 (by omega), Nat.le_trans HS1.out.2.2.2 H2.out.2.size⟩
      clear KB H2 HS1
      go_wp2_with fail
      refine (KT.out _ HS2.out.2.1).mono ?_
      rintro e w3 ⟨s3, rfl, H3⟩
      have HS3 : Hid (Own1 B1 w3 s l ∧ RS Wb w3 g a len cap zs st2 ∧ FBox w3 b ⟨nn, nf, nu, wd, -1, tg, 0, nr⟩ ∧ B1 ≤ w3.heap.size) := ⟨HS2.out.1.kept H3.out.2.2 (by have := HB1.out; omega), H3.out.2.1, HS2.out.2.2.1.grown H3.out.2.2 (by omega), Nat.le_trans HS2.out.2.2.2 H3.out.2.2.size⟩
      have hcv : ∀ c, (convert 27 9 (.slice s3.a s3.n c)).run Tryz.prog w3 = .ok (.string f) w3 := fun c => HLB.out w3 s3.a s3.n c H3.out.1.rd.rd H3.out.1.rd.len
      have hnb : Below w3.heap.size w3 (w3.alloc (.cells #[.string f] 9)) := (Below.refl _ _).alloc (Nat.le_refl _) _
      have HS4 : Hid (Own1 B1 (w3.alloc (.cells #[.string f] 9)) s l ∧ RS Wb (w3.alloc (.cells #[.string f] 9)) g a len cap zs st2 ∧ FBox (w3.alloc (.cells #[.string f] 9)) b ⟨nn, nf, nu, wd, -1, tg, 0, nr⟩ ∧ B1 ≤ (w3.alloc (.cells #[.string f] 9)).heap.size ∧ RdT (w3.alloc (.cells #[.string f] 9)) (some ⟨w3.heap.size, 0, none⟩) [f]) := ⟨HS3.out.1.stays hnb, HS3.out.2.1.below hnb, HS3.out.2.2.1.below hnb, Nat.le_trans HS3.out.2.2.2 hnb.size, one_rdT w3 f⟩
      have hl6 : l.length ≤ 1000000 := by have := HN2.out; omega
      clear hnb H3 HS2 HS3 HLB KT
      generalize s3.a = za at *
      generalize s3.n = zn at *
      generalize s3.c = zc at *
      go_wp2_with (at_builtin; refine wp_text1 rfl _ _ rfl B1 s l rfl HS4.out.1 ⟨w3.heap.size, 0, none⟩ rfl f HS4.out.2.2.2.2 hls hl6 HS4.out.2.2.2.1 ?_; intro t6 W6 HG6 HX6 HT6)
      refine ⟨⟨t6, l ++ [f], st2, k', rfl, by have := HN2.out; have := HT6.out; omega, ⟨by rw [HT6.out]; simp, by rw [List.length_append, List.length_singleton]; exact HN2.out.1, HN2.out.2.1⟩, HP2, HG6.out, HS4.out.2.1.app HX6.out.1 (fun j hj => Nat.le_trans HB1.out.2.2 (HX6.out.2 j hj)), HS4.out.2.2.1.app HX6.out.1 (fun j hj => Nat.lt_of_lt_of_le HB1.out.2.1 (HX6.out.2 j hj)), Nat.le_trans HS4.out.2.2.2.1 HX6.out.1.size⟩, ?_⟩
      have h1 := HT6.out
      have h2 := HN2.out
      show len + 1 - t6.n < len + 1 - s.n
      omega
    · have HE : Hid (PR = (l, st')) := by
        show _ = _
        rw [HP.out, ptxF_end zs len k st' hlf]
        simp
      clear HP HN
      go_wp2_with fail
      refine KL.out.mono ?_
      rintro e w1 ⟨rfl, H1⟩
      have HS1 : Hid (Own1 B1 w1 s l ∧ RS Wb w1 g a len cap zs st' ∧ FBox w1 b ⟨nn, nf, nu, wd, -1, tg, 0, nr⟩ ∧ B1 ≤ w1.heap.size) := ⟨HG.out.1.kept H1.out.2 (by have := HB1.out; omega), HG.out.2.1.to H1.out.1 H1.out.2, HG.out.2.2.1.grown H1.out.2 (by omega), Nat.le_trans HG.out.2.2.2 H1.out.2.size⟩
      clear KL H1 s4 s6 HG
      have s4 := HS1.out.2.2.1.2.2.2.2.1
      simp only at s4
      go_wp2_with fail
      obtain ⟨wz, hz⟩ : ∃ z, z = w1 := ⟨_, rfl⟩
      subst hz
      go_loopw [5] (fun v wr => wr = wz ∧ v = .slice s.a s.n s.c) (fun _ _ => 0)
      case atStart => exact ⟨rfl, rfl⟩
      case round =>
        obtain ⟨hwz, rfl⟩ := hrel
        subst hwz
        go_wp2_with fail
        go_ret
        exact ⟨s, rfl, by rw [HE.out]; exact HS1.out.1.mono HB1.out.2.2, by rw [HE.out]; exact HS1.out.2.1⟩
set_option maxRecDepth 100000 in
set_option maxHeartbeats 4000000 in
theorem taketexts_no (Wb w : World) (g : Nat) (a : Option Addr) (len cap : Nat) (zs : List Int) (st : Option Nat) (nn nf nu wd tg : Nat) (nr : Int) (h : RS Wb w g a len cap zs st) :
    Calls Tryz.prog 155 #[.agg #[.int .i64 nn, .int .i64 nf, .int .i64 nu, .int .i64 wd, .int .i64 0, .int .i64 tg, .int .i64 0, .int .i64 nr], .pointer (some ⟨g, 0, none⟩)] w fun e w' => ∃ s : Sl, e = .returned (.slice s.a s.n s.c) ∧ Hid (Own1 Wb.heap.size w' s [] ∧ RS Wb w' g a len cap zs st) := by
  have HB0 : Below w.heap.size w (w.alloc (.cells #[.int .i64 nn, .int .i64 nf, .int .i64 nu, .int .i64 wd, .int .i64 0, .int .i64 tg, .int .i64 0, .int .i64 nr] 90)) := (Below.refl _ _).alloc (Nat.le_refl _) _
  have HS : Hid (RS Wb (w.alloc (.cells #[.int .i64 nn, .int .i64 nf, .int .i64 nu, .int .i64 wd, .int .i64 0, .int .i64 tg, .int .i64 0, .int .i64 nr] 90)) g a len cap zs st) := h.below HB0
  have HX : Hid (FBox (w.alloc (.cells #[.int .i64 nn, .int .i64 nf, .int .i64 nu, .int .i64 wd, .int .i64 0, .int .i64 tg, .int .i64 0, .int .i64 nr] 90)) w.heap.size ⟨nn, nf, nu, wd, 0, tg, 0, nr⟩) := FBox.new w ⟨nn, nf, nu, wd, 0, tg, 0, nr⟩
  clear h HB0
  go_enter Tryz.func155, Tryz.ntmps155
  go_upto_region 1 with fail
  generalize (w.alloc (.cells #[.int .i64 nn, .int .i64 nf, .int .i64 nu, .int .i64 wd, .int .i64 0, .int .i64 tg, .int .i64 0, .int .i64 nr] 90)) = W1 at *
  generalize w.heap.size = b at *
  have s4 := HX.out.2.2.2.2.1
  have s6 := HX.out.2.2.2.2.2.2.1
  simp only at s4 s6
  go_wp2_with fail
  go_loopw [5] (fun v wr => wr = W1 ∧ v = .slice none 0 0) (fun _ _ => 0)
  case atStart => exact ⟨rfl, rfl⟩
  case round =>
    obtain ⟨hwz, rfl⟩ := hrel
    subst hwz
    go_wp2_with fail
    obtain ⟨wz, hz⟩ : ∃ z, z = wr := ⟨_, rfl⟩
    subst hz
    go_loopw [5] (fun v wr => wr = wz ∧ v = .slice none 0 0) (fun _ _ => 0)
    case atStart => exact ⟨rfl, rfl⟩
    case round =>
      obtain ⟨hwz, rfl⟩ := hrel
      subst hwz
      go_wp2_with fail
      go_ret
      exact ⟨⟨none, 0, 0⟩, rfl, nil_own1 _ _, HS.out⟩
/-- Two texts read: one with its length ahead, one up to the end. -/
def ptx2 (zs : List Int) (len : Nat) (st : Option Nat) : List ByteArray × Option Nat :=
  let z := val (tk zs st 1)
  let s1 := mv len st 1
  let s2 := mv len s1 z
  ([lb (tk zs s1 z), lb (tk zs s2 (lft len s2))], mv len s2 (lft len s2))
set_option maxRecDepth 100000 in
set_option maxHeartbeats 4000000 in
theorem taketexts_two (Wb w : World) (g : Nat) (a : Option Addr) (len cap : Nat) (zs : List Int) (st : Option Nat) (nn nf nu wd tg : Nat) (nr : Int) (h : RS Wb w g a len cap zs st) :
    Calls Tryz.prog 155 #[.agg #[.int .i64 nn, .int .i64 nf, .int .i64 nu, .int .i64 wd, .int .i64 2, .int .i64 tg, .int .i64 1, .int .i64 nr], .pointer (some ⟨g, 0, none⟩)] w fun e w' => ∃ s : Sl, e = .returned (.slice s.a s.n s.c) ∧ Hid (Own1 Wb.heap.size w' s (ptx2 zs len st).1 ∧ RS Wb w' g a len cap zs (ptx2 zs len st).2) := by
  have HB0 : Below w.heap.size w (w.alloc (.cells #[.int .i64 nn, .int .i64 nf, .int .i64 nu, .int .i64 wd, .int .i64 2, .int .i64 tg, .int .i64 1, .int .i64 nr] 90)) := (Below.refl _ _).alloc (Nat.le_refl _) _
  have HS : Hid (RS Wb (w.alloc (.cells #[.int .i64 nn, .int .i64 nf, .int .i64 nu, .int .i64 wd, .int .i64 2, .int .i64 tg, .int .i64 1, .int .i64 nr] 90)) g a len cap zs st) := h.below HB0
  have HX : Hid (FBox (w.alloc (.cells #[.int .i64 nn, .int .i64 nf, .int .i64 nu, .int .i64 wd, .int .i64 2, .int .i64 tg, .int .i64 1, .int .i64 nr] 90)) w.heap.size ⟨nn, nf, nu, wd, 2, tg, 1, nr⟩) := FBox.new w ⟨nn, nf, nu, wd, 2, tg, 1, nr⟩
  have hbg : Wb.heap.size ≤ w.heap.size := h.kp.size
  have hgl := h.gl
  have hlm := h.hm
  have hhl := h.hl
  obtain ⟨PR, hPR⟩ : ∃ PR, ptx2 zs len st = PR := ⟨_, rfl⟩
  have HPR : Hid (PR = ([lb (tk zs (mv len st 1) (val (tk zs st 1))), lb (tk zs (mv len (mv len st 1) (val (tk zs st 1))) (lft len (mv len (mv len st 1) (val (tk zs st 1)))))], mv len (mv len (mv len st 1) (val (tk zs st 1))) (lft len (mv len (mv len st 1) (val (tk zs st 1)))))) := by show _ = _; rw [← hPR]; rfl
  rw [hPR]
  have KB : Hid (∀ W, RS Wb W g a len cap zs st → Calls Tryz.prog 183 #[.pointer (some ⟨g, 0, none⟩)] W fun e w' => e = .returned (.int .i64 (val (tk zs st 1))) ∧ Hid (RSt w' g a len cap (mv len st 1) ∧ W.grownBy w' (some g))) := fun W hW => rbyte_any g a len cap zs st W hW.rst hW.rdW hW.hl hW.hc (by omega) hW.hd hW.off
  clear h HB0 hPR
  generalize val (tk zs st 1) = z at *
  generalize mv len st 1 = st1 at *
  have KT : Hid (∀ W, RS Wb W g a len cap zs st1 → Calls Tryz.prog 156 #[.pointer (some ⟨g, 0, none⟩), .int .i64 z] W fun e w' => ∃ s : Sl, e = .returned (.slice s.a s.n s.c) ∧ Hid (BOwn Wb.heap.size w' s (tk zs st1 z) ∧ RS Wb w' g a len cap zs (mv len st1 z) ∧ W.grownBy w' (some g))) := fun W hW => rtake2 Wb W g a len cap zs st1 z hW
  have HLB : Hid (∀ W ao n c, Rd W ao (tk zs st1 z) → (tk zs st1 z).length = n → (convert 27 9 (.slice ao n c)).run Tryz.prog W = .ok (.string (lb (tk zs st1 z))) W) := fun W ao n c g1 g2 => conv_rd ao n c _ W g1 g2
  have hls : (lb (tk zs st1 z)).size ≤ 1000000000000 := by rw [lb_size]; have := tk_size zs len hhl st1 z; omega
  generalize mv len st1 z = st2 at *
  generalize tk zs st1 z = tks at *
  generalize lb tks = f at *
  have KL : Hid (∀ W, RS Wb W g a len cap zs st2 → Calls Tryz.prog 157 #[.pointer (some ⟨g, 0, none⟩)] W fun e w' => e = .returned (.int .i64 (lft len st2)) ∧ Hid (RSt w' g a len cap st2 ∧ W.grownBy w' (some g))) := fun W hW => rleft_any g a len cap zs st2 W hW.rst hW.rdW hW.hl hW.hc (by omega) hW.hd hW.off
  have KT2 : Hid (∀ W, RS Wb W g a len cap zs st2 → Calls Tryz.prog 156 #[.pointer (some ⟨g, 0, none⟩), .int .i64 (lft len st2)] W fun e w' => ∃ s : Sl, e = .returned (.slice s.a s.n s.c) ∧ Hid (BOwn Wb.heap.size w' s (tk zs st2 (lft len st2)) ∧ RS Wb w' g a len cap zs (mv len st2 (lft len st2)) ∧ W.grownBy w' (some g))) := fun W hW => rtake2 Wb W g a len cap zs st2 (lft len st2) hW
  have HLB2 : Hid (∀ W ao n c, Rd W ao (tk zs st2 (lft len st2)) → (tk zs st2 (lft len st2)).length = n → (convert 27 9 (.slice ao n c)).run Tryz.prog W = .ok (.string (lb (tk zs st2 (lft len st2)))) W) := fun W ao n c g1 g2 => conv_rd ao n c _ W g1 g2
  have hls2 : (lb (tk zs st2 (lft len st2))).size ≤ 1000000000000 := by rw [lb_size]; have := tk_size zs len hhl st2 (lft len st2); omega
  generalize lft len st2 = y at *
  generalize mv len st2 y = st3 at *
  generalize tk zs st2 y = tks2 at *
  generalize lb tks2 = f2 at *
  clear hhl
  go_enter Tryz.func155, Tryz.ntmps155
  go_upto_region 1 with fail
  generalize (w.alloc (.cells #[.int .i64 nn, .int .i64 nf, .int .i64 nu, .int .i64 wd, .int .i64 2, .int .i64 tg, .int .i64 1, .int .i64 nr] 90)) = W1 at *
  obtain ⟨b, hb⟩ : ∃ b, b = w.heap.size := ⟨_, rfl⟩
  rw [← hb] at HX hbg ⊢
  have Hb : Hid (b = w.heap.size) := hb
  clear hb
  obtain ⟨B1, hB1⟩ : ∃ B1, B1 = W1.heap.size := ⟨_, rfl⟩
  have HB1 : Hid (B1 = W1.heap.size ∧ b < B1 ∧ Wb.heap.size ≤ B1) := ⟨hB1, by have := HX.out.2.2.2.2.2.2.2.2; omega, by have := HX.out.2.2.2.2.2.2.2.2; omega⟩
  clear hB1
  go_wp2_with fail
  go_loopw [5] (fun v wr => ∃ (s : Sl) (l : List ByteArray) (st' : Option Nat), v = .slice s.a s.n s.c ∧ ((s.n = 0 ∧ l = [] ∧ st' = st) ∨ (s.n = 1 ∧ l = [f] ∧ st' = st2)) ∧ Hid (Own1 B1 wr s l ∧ RS Wb wr g a len cap zs st' ∧ FBox wr b ⟨nn, nf, nu, wd, 2, tg, 1, nr⟩ ∧ B1 ≤ wr.heap.size)) (fun v _ => 2 - lenOf v)
  case atStart => exact ⟨⟨none, 0, 0⟩, [], st, rfl, .inl ⟨rfl, rfl, rfl⟩, nil_own1 _ _, HS.out, HX.out, by have := HB1.out; omega⟩
  case round =>
    obtain ⟨s, l, st', rfl, hph, HG⟩ := hrel
    have s4 := HG.out.2.2.1.2.2.2.2.1
    have s6 := HG.out.2.2.1.2.2.2.2.2.2.1
    simp only at s4 s6
    rcases hph with ⟨hn0, rfl, rfl⟩ | ⟨hn0, rfl, rfl⟩
    · have hq : (s.n : Int) < 1 := by omega
      have HN0 : Hid (s.n = 0) := hn0
      clear hn0
      have HS1 : Hid (Own1 B1 wr s [] ∧ RS Wb wr g a len cap zs st' ∧ FBox wr b ⟨nn, nf, nu, wd, 2, tg, 1, nr⟩ ∧ B1 ≤ wr.heap.size) := HG
      clear KL KT2 HLB2
      go_wp2_with fail
      refine (KB.out _ HS1.out.2.1).mono ?_
      rintro e w2 ⟨rfl, H2⟩
      have HS2 : Hid (Own1 B1 w2 s [] ∧ RS Wb w2 g a len cap zs st1 ∧ FBox w2 b ⟨nn, nf, nu, wd, 2, tg, 1, nr⟩ ∧ B1 ≤ w2.heap.size) := ⟨HS1.out.1.kept H2.out.2 (by have := HB1.out; omega), HS1.out.2.1.to H2.out.1 H2.out.2, HS1.out.2.2.1.grown H2.out.2 (by omega), Nat.le_trans HS1.out.2.2.2 H2.out.2.size⟩
      clear KB H2 HS1 HG
      go_wp2_with fail
      refine (KT.out _ HS2.out.2.1).mono ?_
      rintro e w3 ⟨s3, rfl, H3⟩
      have HS3 : Hid (Own1 B1 w3 s [] ∧ RS Wb w3 g a len cap zs st2 ∧ FBox w3 b ⟨nn, nf, nu, wd, 2, tg, 1, nr⟩ ∧ B1 ≤ w3.heap.size) := ⟨HS2.out.1.kept H3.out.2.2 (by have := HB1.out; omega), H3.out.2.1, HS2.out.2.2.1.grown H3.out.2.2 (by omega), Nat.le_trans HS2.out.2.2.2 H3.out.2.2.size⟩
      have hcv : ∀ c, (convert 27 9 (.slice s3.a s3.n c)).run Tryz.prog w3 = .ok (.string f) w3 := fun c => HLB.out w3 s3.a s3.n c H3.out.1.rd.rd H3.out.1.rd.len
      have hnb : Below w3.heap.size w3 (w3.alloc (.cells #[.string f] 9)) := (Below.refl _ _).alloc (Nat.le_refl _) _
      have HS4 : Hid (Own1 B1 (w3.alloc (.cells #[.string f] 9)) s [] ∧ RS Wb (w3.alloc (.cells #[.string f] 9)) g a len cap zs st2 ∧ FBox (w3.alloc (.cells #[.string f] 9)) b ⟨nn, nf, nu, wd, 2, tg, 1, nr⟩ ∧ B1 ≤ (w3.alloc (.cells #[.string f] 9)).heap.size ∧ RdT (w3.alloc (.cells #[.string f] 9)) (some ⟨w3.heap.size, 0, none⟩) [f]) := ⟨HS3.out.1.stays hnb, HS3.out.2.1.below hnb, HS3.out.2.2.1.below hnb, Nat.le_trans HS3.out.2.2.2 hnb.size, one_rdT w3 f⟩
      clear hnb H3 HS2 HS3 HLB KT
      generalize s3.a = za at *
      generalize s3.n = zn at *
      generalize s3.c = zc at *
      go_wp2_with (at_builtin; refine wp_text1 rfl _ _ rfl B1 s [] rfl HS4.out.1 ⟨w3.heap.size, 0, none⟩ rfl f HS4.out.2.2.2.2 hls (by simp) HS4.out.2.2.2.1 ?_; intro t6 W6 HG6 HX6 HT6)
      refine ⟨⟨t6, [f], st2, rfl, .inr ⟨HT6.out, rfl, rfl⟩, HG6.out, HS4.out.2.1.app HX6.out.1 (fun j hj => Nat.le_trans HB1.out.2.2 (HX6.out.2 j hj)), HS4.out.2.2.1.app HX6.out.1 (fun j hj => Nat.lt_of_lt_of_le HB1.out.2.1 (HX6.out.2 j hj)), Nat.le_trans HS4.out.2.2.2.1 HX6.out.1.size⟩, ?_⟩
      have h1 := HT6.out
      have h2 := HN0.out
      simp only [List.length_nil] at h1
      show 2 - t6.n < 2 - s.n
      omega
    · have hq : ¬ (s.n : Int) < 1 := by omega
      have HN0 : Hid (s.n = 1) := hn0
      clear hn0
      clear KB KT HLB
      go_wp2_with fail
      obtain ⟨wz, hz⟩ : ∃ z, z = wr := ⟨_, rfl⟩
      subst hz
      go_loopw [5] (fun v wr => ∃ (s' : Sl) (l : List ByteArray) (st'' : Option Nat), v = .slice s'.a s'.n s'.c ∧ ((s'.n = 1 ∧ l = [f] ∧ st'' = st') ∨ (s'.n = 2 ∧ l = [f, f2] ∧ st'' = st3)) ∧ Hid (Own1 B1 wr s' l ∧ RS Wb wr g a len cap zs st'' ∧ FBox wr b ⟨nn, nf, nu, wd, 2, tg, 1, nr⟩ ∧ B1 ≤ wr.heap.size)) (fun v _ => 3 - lenOf v)
      case atStart => exact ⟨s, [f], st', rfl, .inl ⟨HN0.out, rfl, rfl⟩, HG.out⟩
      case round =>
        clear s4 s6 HG hq HN0
        obtain ⟨s', l, st'', rfl, hph, HG⟩ := hrel
        have s4 := HG.out.2.2.1.2.2.2.2.1
        simp only at s4
        rcases hph with ⟨hn0, rfl, rfl⟩ | ⟨hn0, rfl, rfl⟩
        · have hq : (s'.n : Int) < 2 := by omega
          have HN0 : Hid (s'.n = 1) := hn0
          clear hn0
          go_wp2_with fail
          refine (KL.out _ HG.out.2.1).mono ?_
          rintro e w2 ⟨rfl, H2⟩
          have HS2 : Hid (Own1 B1 w2 s' [f] ∧ RS Wb w2 g a len cap zs st'' ∧ FBox w2 b ⟨nn, nf, nu, wd, 2, tg, 1, nr⟩ ∧ B1 ≤ w2.heap.size) := ⟨HG.out.1.kept H2.out.2 (by have := HB1.out; omega), HG.out.2.1.to H2.out.1 H2.out.2, HG.out.2.2.1.grown H2.out.2 (by omega), Nat.le_trans HG.out.2.2.2 H2.out.2.size⟩
          clear KL H2 HG s4
          go_wp2_with fail
          refine (KT2.out _ HS2.out.2.1).mono ?_
          rintro e w3 ⟨s3, rfl, H3⟩
          have HS3 : Hid (Own1 B1 w3 s' [f] ∧ RS Wb w3 g a len cap zs st3 ∧ FBox w3 b ⟨nn, nf, nu, wd, 2, tg, 1, nr⟩ ∧ B1 ≤ w3.heap.size) := ⟨HS2.out.1.kept H3.out.2.2 (by have := HB1.out; omega), H3.out.2.1, HS2.out.2.2.1.grown H3.out.2.2 (by omega), Nat.le_trans HS2.out.2.2.2 H3.out.2.2.size⟩
          have hcv : ∀ c, (convert 27 9 (.slice s3.a s3.n c)).run Tryz.prog w3 = .ok (.string f2) w3 := fun c => HLB2.out w3 s3.a s3.n c H3.out.1.rd.rd H3.out.1.rd.len
          have hnb : Below w3.heap.size w3 (w3.alloc (.cells #[.string f2] 9)) := (Below.refl _ _).alloc (Nat.le_refl _) _
          have HS4 : Hid (Own1 B1 (w3.alloc (.cells #[.string f2] 9)) s' [f] ∧ RS Wb (w3.alloc (.cells #[.string f2] 9)) g a len cap zs st3 ∧ FBox (w3.alloc (.cells #[.string f2] 9)) b ⟨nn, nf, nu, wd, 2, tg, 1, nr⟩ ∧ B1 ≤ (w3.alloc (.cells #[.string f2] 9)).heap.size ∧ RdT (w3.alloc (.cells #[.string f2] 9)) (some ⟨w3.heap.size, 0, none⟩) [f2]) := ⟨HS3.out.1.stays hnb, HS3.out.2.1.below hnb, HS3.out.2.2.1.below hnb, Nat.le_trans HS3.out.2.2.2 hnb.size, one_rdT w3 f2⟩
          clear hnb H3 HS2 HS3 HLB2 KT2
          generalize s3.a = za at *
          generalize s3.n = zn at *
          generalize s3.c = zc at *
          go_wp2_with (at_builtin; refine wp_text1 rfl _ _ rfl B1 s' [f] rfl HS4.out.1 ⟨w3.heap.size, 0, none⟩ rfl f2 HS4.out.2.2.2.2 hls2 (by simp) HS4.out.2.2.2.1 ?_; intro t6 W6 HG6 HX6 HT6)
          refine ⟨⟨t6, [f, f2], st3, rfl, .inr ⟨HT6.out, rfl, rfl⟩, HG6.out, HS4.out.2.1.app HX6.out.1 (fun j hj => Nat.le_trans HB1.out.2.2 (HX6.out.2 j hj)), HS4.out.2.2.1.app HX6.out.1 (fun j hj => Nat.lt_of_lt_of_le HB1.out.2.1 (HX6.out.2 j hj)), Nat.le_trans HS4.out.2.2.2.1 HX6.out.1.size⟩, ?_⟩
          have h1 := HT6.out
          have h2 := HN0.out
          simp only [List.length_cons, List.length_nil] at h1
          show 3 - t6.n < 3 - s'.n
          omega
        · have hq : ¬ (s'.n : Int) < 2 := by omega
          clear hn0
          clear KL KT2 HLB2
          go_wp2_with fail
          go_ret
          exact ⟨s', rfl, by rw [HPR.out]; exact HG.out.1.mono HB1.out.2.2, by rw [HPR.out]; exact HG.out.2.1⟩
end Go.Proofs.YtfkfjodfjgjbkaaGreatDoor
/- The program's data: two lists of names laid together. -/
namespace Go.Proofs.YtfkfjodfjgjbkaaGreatDoor
open Go.ChangeShapes Go.WideShapes Go.ChangeAt Go.RowKit
set_option linter.unusedVariables false
set_option linter.unusedSimpArgs false


theorem UOwn.keepTy {B : Nat} {w w' : World} {s : Sl} {us : List Nat} (h : UOwn B w s us) (hb : ∀ j, B ≤ j → j < w.heap.size → (∃ zs, BlkV w j 70 zs) → w'.heap[j]? = w.heap[j]?) : UOwn B w' s us := by
  obtain ⟨xs, h1, h2, h3⟩ := h
  refine ⟨xs, ?_, h2, h3⟩
  rcases h1 with h1 | ⟨g, e, hg, hblk, hn⟩
  · exact .inl h1
  · exact .inr ⟨g, e, hg, hblk.same (hb g hg hblk.lt ⟨_, hblk⟩), hn⟩
theorem blk_ty {w : World} {j : Nat} {t1 t2 : TypeId} {xs ys : List Value} (h1 : BlkV w j t1 xs) (h2 : BlkV w j t2 ys) : t1 = t2 := by
  have hh : w.heap[j]? = some (.cells xs.toArray t1 (0, 0)) := h1
  have hh' : w.heap[j]? = some (.cells ys.toArray t2 (0, 0)) := h2
  rw [hh] at hh'
  injection hh' with hh'
  injection hh'
/-- A list of names laid behind another. -/
theorem st_nl {w : World} {ops : Array Oper} {o : Oper} {a : Act} {K : Act → World → Prop} {Q : Exit → Act → World → Prop} {E : Prop} (hgd : o.guard = none) (s x : Operand)
    (ho : o.op = .call { callee := .builtin .append, args := #[s, x], argTypes := #[24, 24] }) (B : Nat) (s1 s2 : Sl) (n1 n2 : List (List ByteArray)) (hs : a.eval s = .slice s1.a s1.n s1.c) (hx : a.eval x = .slice s2.a s2.n s2.c) (h1 : OwnN B w (.slice s1.a s1.n s1.c) n1) (h2 : OwnN B w (.slice s2.a s2.n s2.c) n2) (hn : n1.length + n2.length ≤ 1000) (hB : B ≤ w.heap.size)
    (h : ∀ (t' : Sl) w', Hid (OwnN B w' (.slice t'.a t'.n t'.c) (n1 ++ n2)) → Hid (∃ o, w.grownBy w' o ∧ ∀ j, o = some j → B ≤ j ∧ ∃ zs, BlkV w j 45 zs) → K (a.put o.dst (.slice t'.a t'.n t'.c)) w') :
    if Region.wanted o (yielded ops a.tmps) = true then Oper.wp Tryz.prog o a w K Q else E := by
  obtain ⟨xs, o1, q1⟩ := h1
  obtain ⟨ys, o2, q2⟩ := h2
  have hl2 := o2.le
  obtain ⟨ao2, e2, _⟩ := o2.shape
  have hsn : s2.n = n2.length := by injection e2
  have o2' : OwnV B w 45 (.slice s2.a n2.length s2.c) n2.length ys := by rw [hsn] at o2; exact o2
  have hrd := o2'.rd n2.length
  have hlen : (ys.take n2.length).length = s2.n := by rw [List.length_take, hsn]; exact Nat.min_eq_left hl2.1
  have hone : ∀ u ∈ ys.take n2.length, u.oneCell' = true := by
    intro u hu
    obtain ⟨i, hi, rfl⟩ := List.getElem_of_mem hu
    rw [List.length_take] at hi
    obtain ⟨z, e1, _⟩ := q2 i (by omega)
    rw [List.getElem_take]
    rw [List.getElem?_eq_getElem (by omega)] at e1
    injection e1 with e1
    rw [e1]
    rfl
  refine step_append_row tyNs hgd s x 24 ho B _ n1.length xs hs o1 _ s2.n (ys.take n2.length) hx (src_of Tryz.underlying24 hrd hlen hone) (by omega) (by simp only [maxLen]; omega) hB ?_
  intro v' w' xs' r1 r2 r3 r4
  obtain ⟨ao', rfl, _⟩ := r1.out.shape
  have hle := r1.out.le
  have hx' : xs'.take (n1.length + s2.n) = xs.take n1.length ++ ys.take n2.length := r2.out
  have hl1 : (xs.take n1.length).length = n1.length := by have := o1.le.1; rw [List.length_take]; omega
  have hB1 : ∀ j, Value.ownBlock (.slice s1.a s1.n s1.c) = some j → B ≤ j ∧ ∃ zs, BlkV w j 45 zs := by
    intro j hj
    refine ⟨o1.lt j hj, ?_⟩
    rcases o1 with ⟨e3, _⟩ | ⟨g, e3, _, hblk, _⟩
    · rw [e3] at hj; cases hj
    · rw [e3] at hj
      have e4 : g = j := (Option.some.inj hj)
      subst e4
      exact ⟨_, hblk⟩
  have hkb : ∀ j, B ≤ j → j < w.heap.size → (∃ zs, BlkV w j 9 zs) → w'.heap[j]? = w.heap[j]? := by
    rintro j _ hj ⟨zs, hz⟩
    refine r3.out.block j hj (fun e => ?_)
    obtain ⟨_, zs', hz'⟩ := hB1 j e.symm
    exact absurd (blk_ty hz hz') (by decide)
  refine h ⟨ao', n1.length + s2.n, xs'.length⟩ w' ⟨xs', by rw [List.length_append, ← hsn]; exact r1.out, fun i hi => ?_⟩ ⟨_, r3.out, hB1⟩
  rw [List.length_append] at hi
  by_cases hlt : i < n1.length
  · obtain ⟨z, e1, e3⟩ := q1 i hlt
    refine ⟨z, ?_, ?_⟩
    · have h3 : (xs'.take (n1.length + s2.n))[i]? = (xs.take n1.length ++ ys.take n2.length)[i]? := by rw [hx']
      rw [List.getElem?_take_of_lt (by omega), List.getElem?_append_left (by omega), List.getElem?_take_of_lt hlt, e1] at h3
      exact h3
    · rw [List.getElem_append_left hlt]
      exact e3.keep hkb
  · obtain ⟨z, e1, e3⟩ := q2 (i - n1.length) (by omega)
    refine ⟨z, ?_, ?_⟩
    · have h3 : (xs'.take (n1.length + s2.n))[i]? = (xs.take n1.length ++ ys.take n2.length)[i]? := by rw [hx']
      rw [List.getElem?_take_of_lt (by omega), List.getElem?_append_right (by omega), hl1, List.getElem?_take_of_lt (by omega), e1] at h3
      exact h3
    · rw [List.getElem_append_right (by omega)]
      exact e3.keep hkb
/-- What was read, by fields: data, and where the reader is then. -/
def ptxs (f : Fs) (zs : List Int) (len : Nat) (st : Option Nat) : List ByteArray × Option Nat := if f.nt = -1 then ptxF zs len (len + 1) st else if f.nt = 2 then ptx2 zs len st else ([], st)
theorem taketexts_any (t : Nat) (Wb w : World) (g : Nat) (a : Option Addr) (len cap : Nat) (zs : List Int) (st : Option Nat) (h : RS Wb w g a len cap zs st) :
    Calls Tryz.prog 155 #[.agg #[.int .i64 (fs t).nn, .int .i64 (fs t).nf, .int .i64 (fs t).nu, .int .i64 (fs t).wd, .int .i64 (fs t).nt, .int .i64 (fs t).tg, .int .i64 (fs t).tl, .int .i64 (fs t).nr], .pointer (some ⟨g, 0, none⟩)] w fun e w' => ∃ s : Sl, e = .returned (.slice s.a s.n s.c) ∧ Hid (Own1 Wb.heap.size w' s (ptxs (fs t) zs len st).1 ∧ RS Wb w' g a len cap zs (ptxs (fs t) zs len st).2) := by
  rcases fs_cases t with ⟨ht, e⟩ | ⟨ht, e⟩ | ⟨ht, e⟩ | ⟨ht, e⟩ | ⟨ht, e⟩ | ⟨ht, e⟩ | ⟨ht, e⟩ | ⟨ht, e⟩ | ⟨ht, e⟩
  all_goals rw [e]
  all_goals first
    | exact taketexts_no Wb w g a len cap zs st _ _ _ _ _ _ h
    | exact taketexts_txt Wb w g a len cap zs st _ _ _ _ _ _ h.rd.2 h
    | exact taketexts_two Wb w g a len cap zs st _ _ _ _ _ _ h
end Go.Proofs.YtfkfjodfjgjbkaaGreatDoor
/- What is read by fields is what the document reads. No text of the program is used here. -/
namespace Go.Proofs.YtfkfjodfjgjbkaaGreatDoor
open Go.ChangeShapes Go.WideShapes Go.ChangeAt Go.RowKit
set_option linter.unusedVariables false
set_option linter.unusedSimpArgs false


/-- What was read, by fields: data, and where the reader is then. -/
def pread (f : Fs) (zs : List Int) (len : Nat) : Dat × Option Nat :=
  let r1 := pnms zs len (some 0) f.nf
  let r2 := pnus zs len r1.2 f.wd f.nu
  let r3 := pnms zs len r2.2 (f.nn - f.nf)
  let r4 := ptxs f zs len r3.2
  let r5 : List Int × Option Nat := if f.nr = 0 then ([], r4.2) else (tk zs r4.2 (lft len r4.2), mv len r4.2 (lft len r4.2))
  (⟨r1.1 ++ r3.1, r2.1, r4.1, r5.1⟩, r5.2)
/-- From a state to the next one these bytes are gone over. -/
def Stp (zs : List Int) (st st' : Option Nat) (b : List Int) : Prop := ∀ q, st' = some q → ∃ p, st = some p ∧ (p ≤ zs.length → q ≤ zs.length ∧ zs.drop p = b ++ zs.drop q)
theorem Stp.nil (zs : List Int) (st : Option Nat) : Stp zs st st [] := fun q hq => ⟨q, hq, fun h => ⟨h, rfl⟩⟩
theorem Stp.trans {zs : List Int} {a b c : Option Nat} {x y : List Int} (h1 : Stp zs a b x) (h2 : Stp zs b c y) : Stp zs a c (x ++ y) := by
  intro q hq
  obtain ⟨p, e, hp⟩ := h2 q hq
  obtain ⟨p0, e0, hp0⟩ := h1 p e
  refine ⟨p0, e0, fun h => ?_⟩
  obtain ⟨h3, h4⟩ := hp0 h
  obtain ⟨h5, h6⟩ := hp h3
  exact ⟨h5, by rw [h4, h6, List.append_assoc]⟩
theorem Stp.take (zs : List Int) (st : Option Nat) (n : Int) : Stp zs st (mv zs.length st n) (tk zs st n) := by
  intro q hq
  cases st with
  | none => cases hq
  | some k =>
    simp only [mv] at hq
    split at hq
    · rename_i h
      cases hq
      refine ⟨k, rfl, fun _ => ⟨by omega, ?_⟩⟩
      simp only [tk]
      rw [if_pos h, ← List.drop_drop, List.take_append_drop]
    · cases hq
theorem dropd {zs : List Int} {p : Nat} {b R : List Int} (h : zs.drop p = b ++ R) (hp : p ≤ zs.length) : zs = zs.take p ++ (b ++ R) ∧ (zs.take p).length = p ∧ zs.drop (p + b.length) = R ∧ p + b.length ≤ zs.length := by
  refine ⟨by rw [← h, List.take_append_drop], by simp; omega, ?_, ?_⟩
  · rw [← List.drop_drop, h]; simp
  · have := congrArg List.length h
    simp at this; omega
theorem tk_some {zs : List Int} {k : Nat} {n : Int} {q : Nat} (h : mv zs.length (some k) n = some q) : (tk zs (some k) n).length = n.toNat ∧ 0 ≤ n ∧ q = k + n.toNat := by
  simp only [mv] at h
  split at h
  · rename_i hc
    cases h
    simp only [tk]
    rw [if_pos hc]
    refine ⟨by simp; omega, hc.1, trivial⟩
  · cases h
theorem numB_val (l : List Int) (wd : Nat) (hw : wd = 1 ∨ wd = 2 ∨ wd = 4) (hl : l.length = wd) (hb : ∀ z ∈ l, 0 ≤ z ∧ z ≤ 255) : numB (val l).toNat wd = l := by
  rcases hw with rfl | rfl | rfl
  · obtain ⟨a, rfl⟩ := len1 hl
    have := hb a (by simp)
    simp [numB, val]; omega
  · obtain ⟨a, b, rfl⟩ := len2 hl
    have h1 := hb a (by simp)
    have h2 := hb b (by simp)
    simp [numB, val]; omega
  · rcases l with _ | ⟨a, _ | ⟨b, _ | ⟨c, _ | ⟨d, _ | ⟨e, l⟩⟩⟩⟩⟩ <;> simp at hl
    have h1 := hb a (by simp)
    have h2 := hb b (by simp)
    have h3 := hb c (by simp)
    have h4 := hb d (by simp)
    simp [numB, val]; omega
theorem Stp.num (zs : List Int) (hb : ∀ z ∈ zs, 0 ≤ z ∧ z ≤ 255) (st : Option Nat) (wd : Nat) (hw : wd = 1 ∨ wd = 2 ∨ wd = 4) : Stp zs st (mv zs.length st (wd : Int)) (numB (pnu zs st wd) wd) := by
  intro q hq
  have h := Stp.take zs st (wd : Int) q hq
  obtain ⟨p, rfl, h⟩ := h
  refine ⟨p, rfl, fun hp => ?_⟩
  have hl := (tk_some hq).1
  unfold pnu
  rw [numB_val _ wd hw (by omega) (tk_bytes zs _ _ hb)]
  exact h hp
theorem Stp.us (zs : List Int) (hb : ∀ z ∈ zs, 0 ≤ z ∧ z ≤ 255) (st : Option Nat) (wd : Nat) (hw : wd = 1 ∨ wd = 2 ∨ wd = 4) : ∀ k, Stp zs st (pnus zs zs.length st wd k).2 ((pnus zs zs.length st wd k).1.flatMap fun n => numB n wd)
  | 0 => Stp.nil zs st
  | k + 1 => by
    have ih := Stp.us zs hb st wd hw k
    have := ih.trans (Stp.num zs hb (pnus zs zs.length st wd k).2 wd hw)
    simpa [pnus] using this
theorem rgo_sound (l : List Int) (hb : ∀ z ∈ l, 0 ≤ z ∧ z ≤ 255) : ∀ (n p : Nat) (out o : List ByteArray) (q : Nat), l.length - p ≤ n → rgo l p out = some (o, q) → ∃ r, o = out ++ r ∧ q ≤ l.length ∧ l.drop p = nby r ++ (0 :: l.drop q) := by
  intro n
  induction n with
  | zero =>
    intro p out o q hn h
    rw [rgo_end l p out (by omega)] at h
    cases h
  | succ n ih =>
    intro p out o q hn h
    by_cases h1 : p < l.length ∧ l.getD p 0 ≤ 63
    · have hd : l.drop p = l.getD p 0 :: l.drop (p + 1) := by
        rw [List.drop_eq_getElem_cons h1.1]
        simp [List.getD_eq_getElem?_getD, h1.1]
      have hc : 0 ≤ l.getD p 0 := by
        have := hb l[p] (List.getElem_mem h1.1)
        simpa [List.getD_eq_getElem?_getD, h1.1] using this.1
      by_cases h0 : l.getD p 0 = 0
      · rw [rgo_zero l p out h1 h0] at h
        cases h
        refine ⟨[], by simp, by omega, ?_⟩
        rw [hd, h0]
        rfl
      · by_cases h2 : (l.length : Int) - ((p : Int) + 1) < l.getD p 0
        · rw [rgo_short l p out h1 h0 h2] at h; cases h
        · rw [rgo_step l p out h1 h0 h2] at h
          obtain ⟨r, e1, e2, e3⟩ := ih _ _ _ _ (by omega) h
          refine ⟨lb ((l.drop (p + 1)).take (l.getD p 0).toNat) :: r, by rw [e1]; simp, e2, ?_⟩
          have hlen : ((l.drop (p + 1)).take (l.getD p 0).toNat).length = (l.getD p 0).toNat := by rw [List.length_take, List.length_drop]; omega
          have hnm : nums (lb ((l.drop (p + 1)).take (l.getD p 0).toNat)) = (l.drop (p + 1)).take (l.getD p 0).toNat := nums_back _ fun z hz => hb z (List.mem_of_mem_drop (List.mem_of_mem_take hz))
          have hf : nby (lb ((l.drop (p + 1)).take (l.getD p 0).toNat) :: r) = ((lb ((l.drop (p + 1)).take (l.getD p 0).toNat)).size : Int) :: (nums (lb ((l.drop (p + 1)).take (l.getD p 0).toNat)) ++ nby r) := by simp [nby]
          rw [hf, lb_size, hlen, hnm, hd]
          have hz : (((l.getD p 0).toNat : Nat) : Int) = l.getD p 0 := by omega
          have e4 : (l.drop (p + 1)).drop (l.getD p 0).toNat = l.drop (p + 1 + (l.getD p 0).toNat) := List.drop_drop
          rw [hz, List.cons_append, List.append_assoc, ← e3, ← e4, List.take_append_drop]
    · rw [rgo_end l p out h1] at h; cases h
theorem nread_sound {zs : List Int} (hb : ∀ z ∈ zs, 0 ≤ z ∧ z ≤ 255) {p : Nat} (h : (nread zs (p : Int)).2.2 = 0) : ∃ q : Nat, (nread zs (p : Int)).2.1 = (q : Int) ∧ q ≤ zs.length ∧ zs.drop p = nmB (nread zs (p : Int)).1 ++ zs.drop q := by
  by_cases h1 : (p : Int) < 0 ∨ (zs.length : Int) ≤ (p : Int)
  · have e : nread zs (p : Int) = ([], 0, 2) := by unfold nread; rw [if_pos h1]
    rw [e] at h
    exact absurd h (by decide)
  · cases hr : rgo zs p [] with
    | none =>
      have e : nread zs (p : Int) = ([], 0, 8) := by unfold nread; rw [if_neg h1, Int.toNat_natCast, hr]
      rw [e] at h
      exact absurd h (by decide)
    | some x =>
      obtain ⟨o, q⟩ := x
      by_cases hk : nck o = 0
      · have e : nread zs (p : Int) = (o, (q : Int), 0) := by unfold nread; rw [if_neg h1, Int.toNat_natCast, hr]; simp [hk]
        obtain ⟨r, e1, e2, e3⟩ := rgo_sound zs hb _ p [] o q (Nat.le_refl _) hr
        rw [e]
        refine ⟨q, rfl, e2, ?_⟩
        simp at e1
        subst e1
        rw [e3]
        simp [nmB]
      · have e : nread zs (p : Int) = ([], 0, 8) := by unfold nread; rw [if_neg h1, Int.toNat_natCast, hr]; simp [hk]
        rw [e] at h
        exact absurd h (by decide)
theorem Stp.nm (zs : List Int) (hb : ∀ z ∈ zs, 0 ≤ z ∧ z ≤ 255) (st : Option Nat) : Stp zs st (pnm1 zs zs.length st).2 (nmB (pnm1 zs zs.length st).1) := by
  intro q hq
  cases st with
  | none => cases hq
  | some p =>
    refine ⟨p, rfl, fun hp => ?_⟩
    have hq' : jm zs.length (some p) (if (nread zs (p : Int)).2.2 = 0 then (nread zs (p : Int)).2.1 else -1) = some q := hq
    show q ≤ zs.length ∧ zs.drop p = nmB (nread zs (p : Int)).1 ++ zs.drop q
    by_cases h0 : (nread zs (p : Int)).2.2 = 0
    · obtain ⟨r, e1, e2, e3⟩ := nread_sound hb h0
      rw [if_pos h0, e1] at hq'
      simp only [jm] at hq'
      rw [if_pos ⟨by omega, by omega⟩, Int.toNat_natCast] at hq'
      cases hq'
      exact ⟨e2, e3⟩
    · rw [if_neg h0] at hq'
      simp only [jm] at hq'
      rw [if_neg (by omega)] at hq'
      cases hq'
theorem Stp.nms (zs : List Int) (hb : ∀ z ∈ zs, 0 ≤ z ∧ z ≤ 255) (st : Option Nat) : ∀ k, Stp zs st (pnms zs zs.length st k).2 ((pnms zs zs.length st k).1.flatMap nmB)
  | 0 => Stp.nil zs st
  | k + 1 => by
    have ih := Stp.nms zs hb st k
    have := ih.trans (Stp.nm zs hb (pnms zs zs.length st k).2)
    simpa [pnms] using this
theorem nby_cons (s : ByteArray) (r : List ByteArray) : nby (s :: r) = ((s.size : Int) :: nums s) ++ nby r := by simp [nby]
theorem Stp.text (zs : List Int) (hb : ∀ z ∈ zs, 0 ≤ z ∧ z ≤ 255) (st : Option Nat) : Stp zs st (mv zs.length (mv zs.length st 1) (val (tk zs st 1))) (((lb (tk zs (mv zs.length st 1) (val (tk zs st 1)))).size : Int) :: nums (lb (tk zs (mv zs.length st 1) (val (tk zs st 1))))) := by
  intro q hq
  obtain ⟨p1, e1, hB⟩ := Stp.take zs _ _ q hq
  obtain ⟨p0, rfl, hA⟩ := Stp.take zs _ _ p1 e1
  have h1 := tk_some e1
  rw [e1] at hq hB ⊢
  have h2 := tk_some hq
  obtain ⟨c, hc⟩ := len1 (l := tk zs (some p0) 1) (by simpa using h1.1)
  have hv : val (tk zs (some p0) 1) = c := by rw [hc]; simp [val]
  refine ⟨p0, rfl, fun hp => ?_⟩
  obtain ⟨a1, a2⟩ := hA hp
  obtain ⟨b1, b2⟩ := hB a1
  refine ⟨b1, ?_⟩
  have hnm : nums (lb (tk zs (some p1) (val (tk zs (some p0) 1)))) = tk zs (some p1) (val (tk zs (some p0) 1)) := nums_back _ (tk_bytes zs _ _ hb)
  rw [hnm, lb_size, h2.1, a2, b2, hc]
  have : (((val (tk zs (some p0) 1)).toNat : Nat) : Int) = c := by omega
  rw [hc] at this
  rw [this]
  simp
theorem ptxF_none (zs : List Int) (len k : Nat) : ptxF zs len k none = ([], none) := ptxF_end zs len k none (by simp [lft])
theorem Stp.texts (zs : List Int) (hb : ∀ z ∈ zs, 0 ≤ z ∧ z ≤ 255) : ∀ (k : Nat) (st : Option Nat), Stp zs st (ptxF zs zs.length k st).2 (nby (ptxF zs zs.length k st).1)
  | 0, st => Stp.nil zs st
  | k + 1, st => by
    by_cases h : 0 < lft zs.length st
    · have ih := Stp.texts zs hb k (mv zs.length (mv zs.length st 1) (val (tk zs st 1)))
      have := (Stp.text zs hb st).trans ih
      unfold ptxF
      rw [if_pos h]
      simp only
      rw [nby_cons]
      exact this
    · rw [ptxF_end zs zs.length (k + 1) st h]
      exact Stp.nil zs st
theorem Stp.two (zs : List Int) (hb : ∀ z ∈ zs, 0 ≤ z ∧ z ≤ 255) (st : Option Nat) : Stp zs st (ptx2 zs zs.length st).2 (ptB 1 (ptx2 zs zs.length st).1) := by
  have h1 := Stp.text zs hb st
  have h2 := h1.trans (Stp.take zs (mv zs.length (mv zs.length st 1) (val (tk zs st 1))) (lft zs.length (mv zs.length (mv zs.length st 1) (val (tk zs st 1)))))
  have e : ptB 1 (ptx2 zs zs.length st).1 = (((lb (tk zs (mv zs.length st 1) (val (tk zs st 1)))).size : Int) :: nums (lb (tk zs (mv zs.length st 1) (val (tk zs st 1))))) ++ tk zs (mv zs.length (mv zs.length st 1) (val (tk zs st 1))) (lft zs.length (mv zs.length (mv zs.length st 1) (val (tk zs st 1)))) := by
    have hn : nums (lb (tk zs (mv zs.length (mv zs.length st 1) (val (tk zs st 1))) (lft zs.length (mv zs.length (mv zs.length st 1) (val (tk zs st 1)))))) = tk zs (mv zs.length (mv zs.length st 1) (val (tk zs st 1))) (lft zs.length (mv zs.length (mv zs.length st 1) (val (tk zs st 1)))) := nums_back _ (tk_bytes zs _ _ hb)
    simp [ptB, ptx2, nby, hn]
  rw [e]
  exact h2
theorem ptx2_len (zs : List Int) (len : Nat) (st : Option Nat) : (ptx2 zs len st).1.length = 2 := rfl
/-- The texts, whatever the fields. -/
theorem Stp.txs (t : Nat) (zs : List Int) (hb : ∀ z ∈ zs, 0 ≤ z ∧ z ≤ 255) (st : Option Nat) : Stp zs st (ptxs (fs t) zs zs.length st).2 (ptB ((ptxs (fs t) zs zs.length st).1.length - (fs t).tl) (ptxs (fs t) zs zs.length st).1) := by
  rcases fs_cases t with ⟨ht, e⟩ | ⟨ht, e⟩ | ⟨ht, e⟩ | ⟨ht, e⟩ | ⟨ht, e⟩ | ⟨ht, e⟩ | ⟨ht, e⟩ | ⟨ht, e⟩ | ⟨ht, e⟩
  all_goals rw [e]; unfold ptxs
  all_goals first
    | exact Stp.two zs hb st
    | (simp only [if_true]; rw [ptB_all]; exact Stp.texts zs hb _ st)
    | exact Stp.nil zs st
theorem fs_w (t : Nat) : (fs t).nu = 0 ∨ (fs t).wd = 1 ∨ (fs t).wd = 2 ∨ (fs t).wd = 4 := by
  rcases fs_cases t with ⟨_, e⟩ | ⟨_, e⟩ | ⟨_, e⟩ | ⟨_, e⟩ | ⟨_, e⟩ | ⟨_, e⟩ | ⟨_, e⟩ | ⟨_, e⟩ | ⟨_, e⟩ <;> rw [e] <;> simp
/-- What was read whole is written again as it was. -/
theorem pread_sound (t : Nat) (zs : List Int) (hb : ∀ z ∈ zs, 0 ≤ z ∧ z ≤ 255) (hp : (pread (fs t) zs zs.length).2 = some zs.length) (hck : checkF t (pread (fs t) zs zs.length).1 = 0) : writeF t (pread (fs t) zs zs.length).1 = zs := by
  obtain ⟨_, hfit, _, _⟩ := check_parts hck
  have hw := (wr_eq t _ hfit).2.2.2.2.2
  rw [← hw]
  have hu : Stp zs (pnms zs zs.length (some 0) (fs t).nf).2 (pnus zs zs.length (pnms zs zs.length (some 0) (fs t).nf).2 (fs t).wd (fs t).nu).2 ((pnus zs zs.length (pnms zs zs.length (some 0) (fs t).nf).2 (fs t).wd (fs t).nu).1.flatMap fun n => numB n (fs t).wd) := by
    rcases fs_w t with h | h
    · rw [h]; exact Stp.nil _ _
    · exact Stp.us zs hb _ _ h _
  have h123 := (((Stp.nms zs hb (some 0) (fs t).nf).trans hu).trans (Stp.nms zs hb _ ((fs t).nn - (fs t).nf))).trans (Stp.txs t zs hb _)
  have hr : Stp zs (some 0) (pread (fs t) zs zs.length).2 (((pnms zs zs.length (some 0) (fs t).nf).1.flatMap nmB ++ (pnus zs zs.length (pnms zs zs.length (some 0) (fs t).nf).2 (fs t).wd (fs t).nu).1.flatMap (fun n => numB n (fs t).wd) ++ (pnms zs zs.length (pnus zs zs.length (pnms zs zs.length (some 0) (fs t).nf).2 (fs t).wd (fs t).nu).2 ((fs t).nn - (fs t).nf)).1.flatMap nmB ++ ptB ((ptxs (fs t) zs zs.length (pnms zs zs.length (pnus zs zs.length (pnms zs zs.length (some 0) (fs t).nf).2 (fs t).wd (fs t).nu).2 ((fs t).nn - (fs t).nf)).2).1.length - (fs t).tl) (ptxs (fs t) zs zs.length (pnms zs zs.length (pnus zs zs.length (pnms zs zs.length (some 0) (fs t).nf).2 (fs t).wd (fs t).nu).2 ((fs t).nn - (fs t).nf)).2).1) ++ (pread (fs t) zs zs.length).1.raw) := by
    refine h123.trans ?_
    unfold pread
    simp only
    split
    · exact Stp.nil _ _
    · exact Stp.take _ _ _
  obtain ⟨p, e, h⟩ := hr _ hp
  cases e
  obtain ⟨_, h2⟩ := h (Nat.zero_le _)
  have hk : (pnms zs zs.length (some 0) (fs t).nf).1.length = (fs t).nf := pnms_len _ _ _ _
  have e1 : (pread (fs t) zs zs.length).1.ns.take (fs t).nf = (pnms zs zs.length (some 0) (fs t).nf).1 := by
    show ((pnms zs zs.length (some 0) (fs t).nf).1 ++ _).take (fs t).nf = _
    rw [List.take_left' hk]
  have e2 : (pread (fs t) zs zs.length).1.ns.drop (fs t).nf = (pnms zs zs.length (pnus zs zs.length (pnms zs zs.length (some 0) (fs t).nf).2 (fs t).wd (fs t).nu).2 ((fs t).nn - (fs t).nf)).1 := by
    show ((pnms zs zs.length (some 0) (fs t).nf).1 ++ _).drop (fs t).nf = _
    rw [List.drop_left' hk]
  rw [e1, e2]
  rw [List.drop_zero, List.drop_length, List.append_nil] at h2
  exact h2.symm
theorem pnm1_at {zs : List Int} {p : Nat} {n : List ByteArray} {R : List Int} (h : zs.drop p = nmB n ++ R) (hp : p ≤ zs.length) (hk : nck n = 0) : pnm1 zs zs.length (some p) = (n, some (p + nsz n)) := by
  obtain ⟨e1, e2, _, e4⟩ := dropd h hp
  have hg := gName_at (zs.take p) R n hk
  rw [← e1, e2] at hg
  obtain ⟨g1, _, _, g4⟩ := gName_le hg
  simp only [pnm1, pos, g4, jm, if_true]
  rw [if_pos ⟨by omega, by omega⟩]
  simp
  omega
theorem pnms_at {zs : List Int} {p : Nat} {ns : List (List ByteArray)} {R : List Int} (h : zs.drop p = ns.flatMap nmB ++ R) (hp : p ≤ zs.length) (hk : ∀ n ∈ ns, nck n = 0) : ∀ k, k ≤ ns.length → pnms zs zs.length (some p) k = (ns.take k, some (p + ((ns.take k).flatMap nmB).length))
  | 0, _ => by simp [pnms]
  | k + 1, hk1 => by
    have ih := pnms_at h hp hk k (by omega)
    have hd : zs.drop p = (ns.take k).flatMap nmB ++ ((ns.drop k).flatMap nmB ++ R) := by
      rw [h, ← List.append_assoc, ← List.flatMap_append, List.take_append_drop]
    obtain ⟨_, _, e3, e4⟩ := dropd hd hp
    have hdk : ns.drop k = ns[k] :: ns.drop (k + 1) := List.drop_eq_getElem_cons (by omega)
    rw [hdk, List.flatMap_cons, List.append_assoc] at e3
    have h1 := pnm1_at e3 e4 (hk _ (List.getElem_mem _))
    simp only [pnms, ih, h1]
    rw [List.take_succ_eq_append_getElem (by omega), List.flatMap_append]
    simp [nmB_len]; omega
theorem pnus_at {zs : List Int} {p wd : Nat} {us : List Nat} {R : List Int} (h : zs.drop p = us.flatMap (fun n => numB n wd) ++ R) (hp : p ≤ zs.length) (hw : us = [] ∨ wd = 1 ∨ wd = 2 ∨ wd = 4) (hu : ∀ u ∈ us, u ≤ most wd) : ∀ k, k ≤ us.length → pnus zs zs.length (some p) wd k = (us.take k, some (p + ((us.take k).flatMap (fun n => numB n wd)).length))
  | 0, _ => by simp [pnus]
  | k + 1, hk1 => by
    have ih := pnus_at h hp hw hu k (by omega)
    have hw' : wd = 1 ∨ wd = 2 ∨ wd = 4 := hw.resolve_left (fun e => by rw [e] at hk1; simp at hk1)
    have hd : zs.drop p = (us.take k).flatMap (fun n => numB n wd) ++ ((us.drop k).flatMap (fun n => numB n wd) ++ R) := by
      rw [h, ← List.append_assoc, ← List.flatMap_append, List.take_append_drop]
    obtain ⟨_, _, e3, e4⟩ := dropd hd hp
    have hdk : us.drop k = us[k] :: us.drop (k + 1) := List.drop_eq_getElem_cons (by omega)
    rw [hdk, List.flatMap_cons, List.append_assoc] at e3
    have hl := numB_len us[k] wd hw'
    obtain ⟨_, _, e5, e6⟩ := dropd e3 e4
    have hm := hu us[k] (List.getElem_mem _)
    have htk : tk zs (some (p + ((us.take k).flatMap (fun n => numB n wd)).length)) (wd : Int) = numB us[k] wd := by
      simp only [tk]
      rw [if_pos ⟨by omega, by omega⟩, e3, Int.toNat_natCast, List.take_append_of_le_length (by omega), List.take_of_length_le (by omega)]
    have h1 : pnu zs (some (p + ((us.take k).flatMap (fun n => numB n wd)).length)) wd = us[k] := by
      unfold pnu
      rw [htk]
      refine val_numB _ _ ?_
      rcases hw' with rfl | rfl | rfl
      · exact .inl ⟨rfl, by simpa [most] using hm⟩
      · exact .inr (.inl ⟨rfl, by simpa [most] using hm⟩)
      · exact .inr (.inr ⟨rfl, by simpa [most] using hm⟩)
    have h2 : mv zs.length (some (p + ((us.take k).flatMap (fun n => numB n wd)).length)) (wd : Int) = some (p + ((us.take k).flatMap (fun n => numB n wd)).length + wd) := by
      simp only [mv]
      rw [if_pos ⟨by omega, by omega⟩]
      simp
    simp only [pnus, ih, h1, h2]
    rw [List.take_succ_eq_append_getElem (by omega), List.flatMap_append]
    simp [hl]; omega
theorem text_at {zs : List Int} {p : Nat} {s : ByteArray} {R : List Int} (h : zs.drop p = ((s.size : Int) :: nums s) ++ R) (hp : p ≤ zs.length) : val (tk zs (some p) 1) = (s.size : Int) ∧ mv zs.length (some p) 1 = some (p + 1) ∧ tk zs (some (p + 1)) (s.size : Int) = nums s ∧ mv zs.length (some (p + 1)) (s.size : Int) = some (p + 1 + s.size) ∧ zs.drop (p + 1 + s.size) = R ∧ p + 1 + s.size ≤ zs.length := by
  obtain ⟨_, _, e3, e4⟩ := dropd h hp
  have hn := nums_len s
  simp only [List.length_cons] at e3 e4
  have e1 : zs.drop (p + 1) = nums s ++ R := by rw [← List.drop_drop, h]; rfl
  refine ⟨?_, ?_, ?_, ?_, ?_, by omega⟩
  · simp only [tk]
    rw [if_pos ⟨by omega, by omega⟩, h]
    simp [val]
  · simp only [mv]
    rw [if_pos ⟨by omega, by omega⟩]
    simp
  · simp only [tk]
    rw [if_pos ⟨by omega, by omega⟩, e1, Int.toNat_natCast, List.take_append_of_le_length (by omega), List.take_of_length_le (by omega)]
  · simp only [mv]
    rw [if_pos ⟨by omega, by omega⟩]
    simp
  · rw [← e3]; congr 1; omega
theorem ptxF_at {zs : List Int} : ∀ (l : List ByteArray) (p k : Nat), zs.drop p = nby l → p ≤ zs.length → l.length < k → ptxF zs zs.length k (some p) = (l, some zs.length)
  | [], p, k, h, hp, hk => by
    have : zs.length - p = 0 := by have := congrArg List.length h; simpa [nby] using this
    rw [ptxF_end zs zs.length k (some p) (by simp [lft]; omega)]
    have : p = zs.length := by omega
    rw [this]
  | s :: r, p, 0, h, hp, hk => by simp at hk
  | s :: r, p, k + 1, h, hp, hk => by
    rw [nby_cons] at h
    obtain ⟨e1, e2, e3, e4, e5, e6⟩ := text_at h hp
    have ih := ptxF_at r (p + 1 + s.size) k e5 e6 (by simp at hk; omega)
    unfold ptxF
    rw [if_pos (by simp [lft]; omega), e1, e2, e4, e3, ih]
    have : lb (nums s) = s := txt_back s
    rw [this]
theorem rest_at {zs : List Int} {P : Nat} {X : List Int} (hP : zs.drop P = X) (hPl : P ≤ zs.length) : tk zs (some P) (lft zs.length (some P)) = X ∧ mv zs.length (some P) (lft zs.length (some P)) = some zs.length := by
  have hlP := congrArg List.length hP
  rw [List.length_drop] at hlP
  have hf : lft zs.length (some P) = (zs.length : Int) - (P : Int) := rfl
  rw [hf]
  constructor
  · simp only [tk]
    rw [if_pos ⟨by omega, by omega⟩, hP, List.take_of_length_le (by omega)]
  · simp only [mv]
    rw [if_pos ⟨by omega, by omega⟩]
    congr 1; omega
theorem ptx2_at {zs : List Int} {p : Nat} {s r : ByteArray} (h : zs.drop p = ((s.size : Int) :: nums s) ++ nums r) (hp : p ≤ zs.length) : ptx2 zs zs.length (some p) = ([s, r], some zs.length) := by
  obtain ⟨e1, e2, e3, e4, e5, e6⟩ := text_at h hp
  obtain ⟨h1, h2⟩ := rest_at e5 e6
  have hs : lb (nums s) = s := txt_back s
  have hr : lb (nums r) = r := txt_back r
  unfold ptx2
  simp only [e1, e2, e3, e4, h1, h2, hs, hr]
theorem nby_le (l : List ByteArray) : l.length ≤ (nby l).length := by
  have := nby_len l
  have := nsz_len l
  omega
theorem ptB_two (a b : ByteArray) : ptB 1 [a, b] = ((a.size : Int) :: nums a) ++ nums b := by simp [ptB, nby]
/-- Data's bytes are read as the data. -/
theorem pread_at (t : Nat) (d : Dat) (zs : List Int) (hck : checkF t d = 0) (hw : writeF t d = zs) : pread (fs t) zs zs.length = (d, some zs.length) := by
  obtain ⟨hm, hfit, hns, hsz⟩ := check_parts hck
  obtain ⟨_, w1, w2, w3, w4, w5⟩ := wr_eq t d hfit
  rw [hw] at w5
  have hfe := fit_eq t d
  rw [hfit] at hfe
  simp only [Bool.and_eq_true] at hfe
  have hcnt := hfe.1
  unfold cntB at hcnt
  simp only [Bool.and_eq_true] at hcnt
  obtain ⟨⟨⟨c1, c2⟩, c3⟩, c4⟩ := hcnt
  rw [fitB_ge _ _ (by omega)] at c1 c2
  have c1' : d.ns.length = (fs t).nn := by have := of_decide_eq_true c1; omega
  have c2' : d.us.length = (fs t).nu := by have := of_decide_eq_true c2; omega
  have hun := ((fit_iff t d).1 hfit).un
  rw [← w3] at hun
  have hww : d.us = [] ∨ (fs t).wd = 1 ∨ (fs t).wd = 2 ∨ (fs t).wd = 4 := by
    rcases fs_w t with h | h
    · exact .inl (len0 (by omega))
    · exact .inr h
  have z1 : zs.drop 0 = (d.ns.take (fs t).nf).flatMap nmB ++ (d.us.flatMap (fun n => numB n (fs t).wd) ++ ((d.ns.drop (fs t).nf).flatMap nmB ++ (ptB (d.ts.length - (fs t).tl) d.ts ++ d.raw))) := by
    rw [List.drop_zero, ← w5]; simp
  have q1 := pnms_at z1 (Nat.zero_le _) (fun n hn => hns n (List.mem_of_mem_take hn)) (fs t).nf (by simp; omega)
  rw [List.take_take, Nat.min_self] at q1
  obtain ⟨_, _, z2, l2⟩ := dropd z1 (Nat.zero_le _)
  have q2 := pnus_at z2 l2 hww hun (fs t).nu (by omega)
  have ht1 : d.us.take (fs t).nu = d.us := List.take_of_length_le (by omega)
  rw [ht1] at q2
  obtain ⟨_, _, z3, l3⟩ := dropd z2 l2
  have q3 := pnms_at z3 l3 (fun n hn => hns n (List.mem_of_mem_drop hn)) ((fs t).nn - (fs t).nf) (by simp; omega)
  have ht2 : (d.ns.drop (fs t).nf).take ((fs t).nn - (fs t).nf) = d.ns.drop (fs t).nf := List.take_of_length_le (by simp; omega)
  rw [ht2] at q3
  obtain ⟨_, _, z4, l4⟩ := dropd z3 l3
  have q4 : ptxs (fs t) zs zs.length (some (0 + ((d.ns.take (fs t).nf).flatMap nmB).length + (d.us.flatMap (fun n => numB n (fs t).wd)).length + ((d.ns.drop (fs t).nf).flatMap nmB).length)) = (d.ts, some (0 + ((d.ns.take (fs t).nf).flatMap nmB).length + (d.us.flatMap (fun n => numB n (fs t).wd)).length + ((d.ns.drop (fs t).nf).flatMap nmB).length + (ptB (d.ts.length - (fs t).tl) d.ts).length)) ∧ ((fs t).nr = 0 → d.raw = []) := by
    clear q1 q2 q3 z1 z2 z3 l2 l3
    generalize 0 + ((d.ns.take (fs t).nf).flatMap nmB).length + (d.us.flatMap (fun n => numB n (fs t).wd)).length + ((d.ns.drop (fs t).nf).flatMap nmB).length = p at *
    have hlz : (zs.drop p).length = zs.length - p := by simp
    rcases fs_cases t with ⟨ht, e⟩ | ⟨ht, e⟩ | ⟨ht, e⟩ | ⟨ht, e⟩ | ⟨ht, e⟩ | ⟨ht, e⟩ | ⟨ht, e⟩ | ⟨ht, e⟩ | ⟨ht, e⟩
    all_goals rw [e] at c3 c4 z4 ⊢
    all_goals simp only at z4 c3 c4 ⊢
    case inr.inr.inr.inr.inr.inr.inl =>
      have hraw : d.raw = [] := nil_of (by rw [fitB_ge _ _ (by omega)] at c4; simpa using c4)
      rw [hraw, ptB_all, List.append_nil] at z4
      have := nby_le d.ts
      refine ⟨?_, fun _ => hraw⟩
      unfold ptxs
      rw [if_pos rfl, ptxF_at d.ts p _ z4 l4 (by rw [z4] at hlz; omega), ptB_all]
      rw [z4] at hlz
      congr 2; omega
    case inr.inr.inr.inr.inr.inr.inr.inl =>
      have hraw : d.raw = [] := nil_of (by rw [fitB_ge _ _ (by omega)] at c4; simpa using c4)
      have h2 : d.ts.length = 2 := by rw [fitB_ge _ _ (by omega)] at c3; simp at c3; omega
      obtain ⟨a, b, hab⟩ := len2 h2
      refine ⟨?_, fun _ => hraw⟩
      rw [hab, hraw, List.append_nil] at z4
      have z5 : zs.drop p = ptB 1 [a, b] := z4
      rw [ptB_two] at z5
      unfold ptxs
      rw [if_neg (by decide), if_pos rfl, ptx2_at z5 l4, hab]
      rw [z4] at hlz
      congr 2; omega
    all_goals
      have hts : d.ts = [] := nil_of (by rw [fitB_ge _ _ (by omega)] at c3; simpa using c3)
      refine ⟨?_, ?_⟩
      · rw [hts]; unfold ptxs; simp [ptB, nby]
      · first
          | (intro h; exact absurd h (by decide))
          | (intro _; exact nil_of (by rw [fitB_ge _ _ (by omega)] at c4; simpa using c4))
  obtain ⟨q4, hraw⟩ := q4
  obtain ⟨_, _, z5, l5⟩ := dropd z4 l4
  unfold pread
  simp only [q1, q2, q3, q4]
  have hlz := congrArg List.length z5
  rw [List.length_drop] at hlz
  have hnn : d.ns.take (fs t).nf ++ d.ns.drop (fs t).nf = d.ns := List.take_append_drop _ _
  rw [hnn]
  split
  · rename_i h
    have hr := hraw h
    rw [hr] at hlz
    have hP := Nat.le_antisymm l5 (Nat.le_of_sub_eq_zero hlz)
    rw [hP, ← hr]
  · obtain ⟨r1, r2⟩ := rest_at z5 l5
    rw [r1, r2]
/-- What the program reads is what the document reads. -/
theorem pread_doc (t : Nat) (zs : List Int) (hb : ∀ z ∈ zs, 0 ≤ z ∧ z ≤ 255) : (if (pread (fs t) zs zs.length).2 = some zs.length ∧ checkF t (pread (fs t) zs zs.length).1 = 0 then some (pread (fs t) zs zs.length).1 else none) = dreadF t zs := by
  refine read_unique ?_ ?_
  · intro d h
    split at h
    · rename_i hc
      cases h
      exact ⟨hc.2, pread_sound t zs hb hc.1 hc.2⟩
    · cases h
  · intro h d hck hw
    have := pread_at t d zs hck hw
    rw [this] at h
    simp only at h
    rw [if_pos ⟨trivial, hck⟩] at h
    cases h
end Go.Proofs.YtfkfjodfjgjbkaaGreatDoor
