/- Texts laid together, in parts: Eh Ei Ej Ek El Em En. -/
import Derived.Test.YtgeoadkcmbageaaUbb
set_option maxRecDepth 100000
namespace Go.Proofs.Ytgeoadkcmbageaa
open Go.ChangeShapes Go.WideShapes Go.ChangeAt Go.RowKit
set_option linter.unusedVariables false
set_option linter.unusedSimpArgs false
def slN : Value → Nat
  | .slice _ n _ => n
  | _ => 0
/-- A reader over bytes, and what is kept beside it. -/
structure RI (w : World) (B gr : Nat) (a : Option Addr) (len ca : Nat) (zs : List Int) (st : Option Nat) (W : World) : Prop where
  st : RSt W gr a len ca st
  rd : Rd W a zs
  sz : B ≤ W.heap.size
  bl : Below w.heap.size w W
/-- What does not change. -/
structure RC (w : World) (B gr : Nat) (a : Option Addr) (len ca : Nat) (zs : List Int) : Prop where
  ln : zs.length = len
  cap : len ≤ ca
  most : len ≤ 140737488355328
  nil : a = none → ca = 0
  off : Off a gr
  lo : w.heap.size ≤ gr
  hi : gr < B
  ab : ∀ y o, a = some ⟨y, o, none⟩ → y < B
theorem RI.mv {w : World} {B gr : Nat} {a : Option Addr} {len ca : Nat} {zs : List Int} {st st' : Option Nat} {W W' : World} (c : RC w B gr a len ca zs) (h : RI w B gr a len ca zs st W) (hs : RSt W' gr a len ca st') (hg : W.grownBy W' (some gr)) : RI w B gr a len ca zs st' W' :=
  ⟨hs, h.rd.grown hg c.off, Nat.le_trans h.sz hg.size, h.bl.grown hg h.bl.size (fun q hq => by have := Option.some.inj hq; have := c.lo; omega)⟩
theorem RI.app {w : World} {B gr : Nat} {a : Option Addr} {len ca : Nat} {zs : List Int} {st : Option Nat} {W W2 W' : World} {g : Option Nat} (c : RC w B gr a len ca zs) (h : RI w B gr a len ca zs st W) (hb : Below W.heap.size W W2) (hg : W2.grownBy W' g) (hk : ∀ k, g = some k → B ≤ k) : RI w B gr a len ca zs st W' := by
  have h2 := h.bl.trans (hb.mono h.bl.size)
  have hlt := h.st.lt
  have hs := hb.size
  have c1 := c.lo
  have c2 := c.hi
  refine ⟨h.st.same ?_, ?_, Nat.le_trans h.sz (Nat.le_trans hb.size hg.size), h2.grown hg h2.size (fun q hq => by have := hk q hq; omega)⟩
  · rw [hg.block gr (by omega) (fun e => by have := hk gr e.symm; omega), hb.block gr hlt]
  · have hr := h.rd.below hb
    refine ⟨?_, hr.2⟩
    rcases hr.1 with e | ⟨y, o, e1, e2, e3⟩
    · exact .inl e
    · refine .inr ⟨y, o, e1, Nat.lt_of_lt_of_le e2 hg.size, fun i hi => ?_⟩
      rw [← e3 i hi]
      simp only [World.cell?, hg.block y e2 (fun e => by have := hk y e.symm; have := c.ab y o e1; omega)]
theorem ODt.up {B B' : Nat} {w : World} {g : Option Nat} {x : Sl} {zs : List Int} (h : ODt B' w none x zs) (hB : B ≤ B') (hg : ∀ k, g = some k → k < B') : ODt B w g x zs :=
  ⟨h.1, h.2.imp id (fun ⟨b, o, e1, e2, e3, _⟩ => ⟨b, o, e1, by omega, e3, fun e => by have := hg b e.symm; omega⟩)⟩
theorem ODt.stay {B : Nat} {w w' : World} {g : Option Nat} {x : Sl} {zs : List Int} (h : ODt B w g x zs) (hb : Below w.heap.size w w') : ODt B w' g x zs := h.go hb.size (fun j _ e2 _ => hb.block j e2) (fun _ _ h => h)
theorem OwO.mv {B gr : Nat} {w w' : World} {v : Value} {os : List Opt} (h : OwO B w v os) (hg : w.grownBy w' (some gr)) (hr : gr < B) : OwO B w' v os := by
  obtain ⟨ps, h1, h2, h3⟩ := h
  refine ⟨ps, h1, h2.kept hg ?_, fun p hp => ⟨(h3 p hp).1.go hg.size (fun j e1 e2 e3 => hg.block j e2 (fun e => by injection e with e; omega)) (fun _ _ h => h), (h3 p hp).2⟩⟩
  refine .inr (fun e => ?_)
  have := (h2.lt gr e).1
  omega
theorem OwO.mono {B B' : Nat} {w : World} {v : Value} {os : List Opt} (h : OwO B w v os) (hB : B' ≤ B) : OwO B' w v os := by
  obtain ⟨ps, h1, h2, h3⟩ := h
  exact ⟨ps, h1, ownsRow_low h2 hB, fun p hp => ⟨⟨(h3 p hp).1.1, (h3 p hp).1.2.imp id (fun ⟨b, o, e1, e2, e3⟩ => ⟨b, o, e1, by omega, e3⟩)⟩, (h3 p hp).2⟩⟩
theorem OwO.stay {B : Nat} {w w' : World} {v : Value} {os : List Opt} (h : OwO B w v os) (hb : Below w.heap.size w w') : OwO B w' v os := by
  obtain ⟨ps, h1, h2, h3⟩ := h
  exact ⟨ps, h1, ownsRow_stays h2 hb, fun p hp => ⟨(h3 p hp).1.go hb.size (fun j e1 e2 e3 => hb.block j e2) (fun _ _ h => h), (h3 p hp).2⟩⟩
theorem OwO.push {B : Nat} {w w' : World} {v v' : Value} {ps : List (Sl × Opt)} {y : Sl} {o : Opt} (h3 : ∀ p ∈ ps, ODt B w v.ownBlock p.1 p.2.d ∧ p.2.cd < 65536) (hy : ODt B w v.ownBlock y o.d) (hc : o.cd < 65536) (h5 : w'.ownsRow B 68 2 v' (ps.length + 1) (cellsO ps ++ oCells y o)) (h6 : w.grownBy w' v.ownBlock) (h7 : v'.ownBlock = v.ownBlock ∨ v'.ownBlock = some w.heap.size) : OwO B w' v' (ps.map (·.2) ++ [o]) := by
  refine ⟨ps ++ [(y, o)], by simp, ?_, fun p hp => ?_⟩
  · rw [cellsO_app, List.length_append]
    have : cellsO [(y, o)] = oCells y o := by simp [cellsO]
    rw [this]
    exact h5
  · have hx : ODt B w v.ownBlock p.1 p.2.d ∧ p.2.cd < 65536 := by
      rcases List.mem_append.1 hp with hp | hp
      · exact h3 p hp
      · rw [List.mem_singleton.1 hp]; exact ⟨hy, hc⟩
    refine ⟨hx.1.go h6.size (fun j e1 e2 e3 => h6.block j e2 e3) (fun b hb hne => ?_), hx.2⟩
    rcases h7 with h7 | h7
    · rw [h7]; exact hne
    · rw [h7]; intro e; injection e with e; omega
/-- What is gathered: as much as was read, or that there is nothing to be read. -/
def RdI (B : Nat) (zs : List Int) (W : World) (v : Value) : Option Nat → Prop
  | some p => ∃ l, OwO B W v l ∧ gopt zs = (gopt (zs.drop p)).map (l ++ ·) ∧ 4 * l.length ≤ p
  | none => gopt zs = none
theorem OwO.len {B : Nat} {w : World} {v : Value} {os : List Opt} (h : OwO B w v os) : slN v = os.length := by
  obtain ⟨ps, rfl, h2, _⟩ := h
  rcases h2.2 with ⟨rfl, h0⟩ | ⟨g, cap, cur, rfl, _⟩
  · simp [slN, h0]
  · simp [slN]
theorem row_slN {B e k n : Nat} {w : World} {v : Value} {xs : List Value} (h : w.ownsRow B e k v n xs) : slN v = n := by
  rcases h.2 with ⟨rfl, h0⟩ | ⟨g, cap, cur, rfl, _⟩
  · simp [slN, h0]
  · rfl
def RdE (zs : List Int) (w : World) (e : Ending) (w' : World) : Prop :=
  (∃ l, ∃ x : Sl, gopt zs = some l ∧ e = .returned (.tuple #[.slice x.a x.n x.c, .bool true]) ∧ Hid (OwO w.heap.size w' (.slice x.a x.n x.c) l ∧ Below w.heap.size w w')) ∨ (gopt zs = none ∧ e = .returned (.tuple #[.slice none 0 0, .bool false]) ∧ Hid (Below w.heap.size w w'))
theorem rdp_yes {zs : List Int} {w w' : World} {l : List Opt} {x : Sl} (h : gopt zs = some l) (h1 : OwO w.heap.size w' (.slice x.a x.n x.c) l) (h2 : Below w.heap.size w w') : RdE zs w (.returned (.tuple #[.slice x.a x.n x.c, .bool true])) w' := .inl ⟨l, x, h, rfl, h1, h2⟩
theorem rdp_no {zs : List Int} {w w' : World} (h : gopt zs = none) (h2 : Below w.heap.size w w') : RdE zs w (.returned (.tuple #[.slice none 0 0, .bool false])) w' := .inr ⟨h, rfl, h2⟩
theorem newE (s : Sl) (zs : List Int) (w : World) (h : BRd w s zs) (hm : s.n ≤ 140737488355328) : Calls Try.prog 63 #[(.slice s.a s.n s.c)] w fun e w' => ∃ gr a' ca, e = .returned (.pointer (some ⟨gr, 0, none⟩)) ∧ Hid (RC w w'.heap.size gr a' s.n ca zs ∧ RI w w'.heap.size gr a' s.n ca zs (some 0) w') := by
  have hl := h.len
  obtain ⟨sa, sn, sc⟩ := s
  simp only at *
  cases sa with
  | none =>
    have h0 := h.nil rfl
    simp only at h0
    have hn0 : sn = 0 := by have := h.cap.1; simp only at this; omega
    subst h0; subst hn0
    have : zs = [] := List.length_eq_zero_iff.1 hl
    subst this
    refine (new_none w).mono ?_
    rintro e w' ⟨gr, a', ca, rfl, H⟩
    obtain ⟨h1, h2, h3, h4, h5, h6, h7, h8⟩ := H.out
    exact ⟨gr, a', ca, rfl, ⟨rfl, h4, by omega, h5, h6, h1, h2.lt, fun y o e => (h7 y o e).2⟩, ⟨⟨h2, by omega⟩, h3, Nat.le_refl _, h8⟩⟩
  | some x =>
    have hr := h.rd
    subst hl
    refine (new_any x sc zs w hr hm).mono ?_
    rintro e w' ⟨gr, a', ca, rfl, H⟩
    obtain ⟨h1, h2, h3, h4, h5, h6, h7, h8⟩ := H.out
    exact ⟨gr, a', ca, rfl, ⟨rfl, h4, hm, h5, h6, h1, h2.lt, fun y o e => (h7 y o e).2⟩, ⟨⟨h2, by omega⟩, h3, Nat.le_refl _, h8⟩⟩
set_option maxRecDepth 100000 in
set_option maxHeartbeats 2000000 in
theorem read40 (s : Sl) (zs : List Int) (w : World) (h : BRd w s zs) (hm : s.n ≤ 1000000) : Calls Try.prog 40 #[(.slice s.a s.n s.c)] w (RdE zs w) := by
  have KN := Lib.hid (newE s zs w h (by omega))
  have HZB : Hid (∀ z ∈ zs, 0 ≤ z ∧ z ≤ 255) := h.rd.2
  clear h
  obtain ⟨sa, len, sc⟩ := s
  simp only at *
  obtain ⟨i68, hi, hz0, hz1, hz2⟩ := inf68
  have HI : Hid (Try.prog.info? 68 = some i68 ∧ i68.zero = some (.agg #[.int .u16 0, .slice none 0 0]) ∧ i68.size = 2 ∧ i68.bytes = 32) := ⟨hi, hz0, hz1, hz2⟩
  clear hi hz0 hz1 hz2
  go_enter Try.func40, Try.ntmps40
  go_wp2_with fail
  refine KN.out.mono ?_
  rintro e w1 ⟨gr, a, ca, rfl, H1⟩
  obtain ⟨B, hB⟩ : ∃ B, B = w1.heap.size := ⟨_, rfl⟩
  rw [← hB] at H1
  have HC : Hid (RC w B gr a len ca zs) := H1.out.1
  have HR1 : Hid (RI w B gr a len ca zs (some 0) w1) := H1.out.2
  clear H1 KN hB
  go_wp2_with fail
  go_loopw [4] (fun v wr => ∃ st, Hid (RI w B gr a len ca zs st wr) ∧ Hid (RdI B zs wr v st)) (fun v _ => len + 10 - slN v)
  case atStart => exact ⟨some 0, HR1.out, ⟨[], OwO.nil _ _, by simp, by simp⟩⟩
  case round =>
    obtain ⟨st, HR, HD⟩ := hrel
    have K64 := Lib.hid (rleft_any gr a len ca zs st wr HR.out.st HR.out.rd HC.out.ln HC.out.cap HC.out.most HC.out.nil HC.out.off)
    cases st with
    | none =>
      simp only [lft] at K64
      go_wp2_with fail
      refine K64.out.mono ?_
      rintro e w2 ⟨rfl, H2⟩
      have HR2 : Hid (RI w B gr a len ca zs none w2) := HR.out.mv HC.out H2.out.1 H2.out.2
      have K67 := Lib.hid (rbad_any gr a len ca zs none w2 HR2.out.st HR2.out.rd HC.out.ln HC.out.cap HC.out.most HC.out.nil HC.out.off)
      simp only [Option.isNone_none] at K67
      clear K64 H2
      go_wp2_with fail
      refine K67.out.mono ?_
      rintro e w3 ⟨rfl, H3⟩
      have HR3 : Hid (RI w B gr a len ca zs none w3) := HR2.out.mv HC.out H3.out.1 H3.out.2
      clear K67 H3
      go_wp2_with fail
      exact bodyPost_ret (v := .tuple #[.slice none 0 0, .bool false]) (by simp [results, Try.results40, go_sem]) rfl (rdp_no HD.out HR3.out.bl)
    | some p =>
      have hple : p ≤ len := HR.out.st.le p rfl
      simp only [lft] at K64
      by_cases hlt : p < len
      · have hlt' : (0 : Int) < (len : Int) - (p : Int) := by omega
        go_wp2_with fail
        refine K64.out.mono ?_
        rintro e w2 ⟨rfl, H2⟩
        have HR2 : Hid (RI w B gr a len ca zs (some p) w2) := HR.out.mv HC.out H2.out.1 H2.out.2
        obtain ⟨l, h1, h2, h3⟩ := HD.out
        have HO2 : Hid (OwO B w2 u4 l) := h1.mv H2.out.2 HC.out.hi
        have HG : Hid (gopt zs = (gopt (zs.drop p)).map (l ++ ·) ∧ 4 * l.length ≤ p) := ⟨h2, h3⟩
        clear h1 h2 h3 H2 HR HD K64
        have hv1 := tk_val2 HZB.out (some p)
        obtain ⟨c, hc⟩ : ∃ c : Nat, (c : Int) = val (tk zs (some p) 2) := ⟨(val (tk zs (some p) 2)).toNat, by omega⟩
        obtain ⟨st1, hst1⟩ : ∃ st1, st1 = mv len (some p) 2 := ⟨_, rfl⟩
        have K1 := Lib.hid (ru16_any gr a len ca zs (some p) w2 HR2.out.st HR2.out.rd HC.out.ln HC.out.cap HC.out.most HC.out.nil HC.out.off)
        rw [← hc, ← hst1] at K1
        have hcb : c ≤ 65535 := by omega
        have hcw : IntKind.u16.wrap (c : Int) = (c : Int) := by rw [IntKind.wrap_u16]; omega
        have HE1 : Hid ((c : Int) = val (tk zs (some p) 2) ∧ st1 = mv len (some p) 2) := ⟨hc, hst1⟩
        clear hv1 hc hst1
        go_wp2_with fail
        refine K1.out.mono ?_
        rintro e w3 ⟨rfl, H3⟩
        have HR3 : Hid (RI w B gr a len ca zs st1 w3) := HR2.out.mv HC.out H3.out.1 H3.out.2
        have HO3 : Hid (OwO B w3 u4 l) := HO2.out.mv H3.out.2 HC.out.hi
        obtain ⟨n, hn⟩ : ∃ n : Int, n = val (tk zs st1 2) := ⟨_, rfl⟩
        obtain ⟨st2, hst2⟩ : ∃ st2, st2 = mv len st1 2 := ⟨_, rfl⟩
        have K2 := Lib.hid (ru16_any gr a len ca zs st1 w3 HR3.out.st HR3.out.rd HC.out.ln HC.out.cap HC.out.most HC.out.nil HC.out.off)
        rw [← hn, ← hst2] at K2
        have HE2 : Hid (n = val (tk zs st1 2) ∧ st2 = mv len st1 2) := ⟨hn, hst2⟩
        clear hn hst2 K1 H3 HO2 HR2
        go_wp2_with fail
        refine K2.out.mono ?_
        rintro e w4 ⟨rfl, H4⟩
        have HR4 : Hid (RI w B gr a len ca zs st2 w4) := HR3.out.mv HC.out H4.out.1 H4.out.2
        have HO4 : Hid (OwO B w4 u4 l) := HO3.out.mv H4.out.2 HC.out.hi
        obtain ⟨d, hd⟩ : ∃ d, d = tk zs st2 n := ⟨_, rfl⟩
        obtain ⟨st3, hst3⟩ : ∃ st3, st3 = mv len st2 n := ⟨_, rfl⟩
        have K3 := Lib.hid (take66 gr a len ca zs st2 n w4 HR4.out.st HR4.out.rd HC.out.ln HC.out.cap HC.out.most HC.out.nil HC.out.off)
        rw [← hd, ← hst3] at K3
        have HE3 : Hid (d = tk zs st2 n ∧ st3 = mv len st2 n) := ⟨hd, hst3⟩
        clear hd hst3 K2 H4 HO3 HR3
        go_wp2_with fail
        refine K3.out.mono ?_
        rintro e w5 ⟨⟨ya, yn, yc⟩, rfl, H5⟩
        have HR5 : Hid (RI w B gr a len ca zs st3 w5) := HR4.out.mv HC.out H5.out.2.1 H5.out.2.2
        have HO5 : Hid (OwO B w5 u4 l) := HO4.out.mv H5.out.2.2 HC.out.hi
        obtain ⟨ps, q1, q2, q3⟩ := HO5.out
        have hpl : ps.length = l.length := by rw [← q1]; simp
        have hbnd : ps.length ≤ 1000000 := by have := HG.out.2; omega
        have HPS : Hid (ps.map (·.2) = l ∧ ∀ q ∈ ps, ODt B w5 u4.ownBlock q.1 q.2.d ∧ q.2.cd < 65536) := ⟨q1, q3⟩
        have HPL : Hid (ps.length = l.length) := hpl
        have HOW0 : Hid (w5.ownsRow B 68 2 u4 ps.length (cellsO ps)) := q2
        have HOW : Hid ((w5.alloc (.cells #[.int .u16 (c : Int), .slice ya yn yc] 68)).ownsRow B 68 2 u4 ps.length (cellsO ps)) := q2.alloc _
        have HSZ : Hid (B ≤ (w5.alloc (.cells #[.int .u16 (c : Int), .slice ya yn yc] 68)).heap.size) := (show B ≤ _ by rw [World.size_alloc]; have := HR5.out.sz; omega)
        have HN := Lib.hid (two_new w5 (.int .u16 (c : Int)) (.slice ya yn yc) 68)
        clear q1 q2 q3 hpl K3
        go_wp2_with (at_builtin; refine wpList_append_own_at _ rfl _ _ 22 rfl B 68 i68 _ 2 32 Try.underlying22 HI.out.1 HI.out.2.1 HI.out.2.2.1 HI.out.2.2.2 rfl (by omega) _ ps.length _ rfl HOW.out ⟨w5.heap.size, 0, none⟩ 1 1 [.int .u16 (c : Int), .slice ya yn yc] rfl rfl HN.out (by simp [Value.oneCell']) (by simp only [maxLen]; omega) (by omega) HSZ.out ?_; intro v' w' h5 h6 _ h7; have H6 := Lib.hid h5; have H7 := Lib.hid h6; have H8 := Lib.hid h7; clear h5 h6 h7)
        have hna := newE_below w5 (.cells #[.int .u16 (c : Int), .slice ya yn yc] 68)
        have hlt0 := HOW0.out.lt
        have hlt4 : ∀ k, u4.ownBlock = some k → k < w4.heap.size := by
          obtain ⟨_, _, r2, _⟩ := HO4.out
          exact fun k e => (r2.lt k e).2
        have hsl : slN v' = ps.length + 1 := row_slN H6.out
        have hsl0 : slN u4 = ps.length := row_slN HOW0.out
        have hpush : OwO B w' v' (l ++ [⟨c, d⟩]) := by
          rw [← HPS.out.1]
          exact OwO.push (w := w5.alloc (.cells #[.int .u16 (c : Int), .slice ya yn yc] 68)) (v := u4) (y := ⟨ya, yn, yc⟩) (o := ⟨c, d⟩) (fun q hq => ⟨(HPS.out.2 q hq).1.stay hna, (HPS.out.2 q hq).2⟩) ((H5.out.1.up HR4.out.sz hlt4).stay hna) (by simp only; omega) H6.out H7.out H8.out
        refine ⟨⟨st3, HR5.out.app HC.out hna H7.out (fun k e => (hlt0 k e).1), ?_⟩, ?_⟩
        · have e1 := HE1.out
          have e2 := HE2.out
          have e3 := HE3.out
          have hlen := HC.out.ln
          subst hlen
          rcases read_step HZB.out hlt e1.2 e1.1 e2.1 e2.2 e3.1 e3.2 with ⟨rfl, f2⟩ | ⟨q, rfl, f2, f3, f4⟩
          · show gopt zs = none
            rw [HG.out.1, f2]
            rfl
          · refine ⟨l ++ [⟨c, d⟩], hpush, ?_, ?_⟩
            · rw [HG.out.1, f4, Option.map_map]
              congr 1
              funext r
              simp
            · have := HG.out.2
              simp
              omega
        · rw [hsl, hsl0]
          have := HG.out.2
          have := HPL.out
          omega
      · have hpe : p = len := by omega
        subst hpe
        have hsub : (p : Int) - (p : Int) = 0 := by omega
        rw [hsub] at K64
        go_wp2_with fail
        refine K64.out.mono ?_
        rintro e w2 ⟨rfl, H2⟩
        have HR2 : Hid (RI w B gr a p ca zs (some p) w2) := HR.out.mv HC.out H2.out.1 H2.out.2
        have K67 := Lib.hid (rbad_any gr a p ca zs (some p) w2 HR2.out.st HR2.out.rd HC.out.ln HC.out.cap HC.out.most HC.out.nil HC.out.off)
        simp only [Option.isNone_some] at K67
        obtain ⟨l, h1, h2, h3⟩ := HD.out
        rw [List.drop_of_length_le (by rw [HC.out.ln]; exact Nat.le_refl _)] at h2
        have HG : Hid (gopt zs = some l) := (show _ = _ by rw [h2]; simp [gopt_nil])
        have HO2 : Hid (OwO B w2 u4 l) := h1.mv H2.out.2 HC.out.hi
        clear K64 H2 h1 h2 h3 HD hsub
        go_wp2_with fail
        refine K67.out.mono ?_
        rintro e w3 ⟨rfl, H3⟩
        have HR3 : Hid (RI w B gr a p ca zs (some p) w3) := HR2.out.mv HC.out H3.out.1 H3.out.2
        have HO3 : Hid (OwO B w3 u4 l) := HO2.out.mv H3.out.2 HC.out.hi
        clear K67 H3
        have HX0 : Hid (OwO w.heap.size w3 u4 l) := HO3.out.mono (by have := HC.out.lo; have := HC.out.hi; omega)
        obtain ⟨x, hx, _⟩ := HO3.out.rd
        subst hx
        have HX : Hid (OwO w.heap.size w3 (.slice x.a x.n x.c) l) := HX0.out
        go_wp2_with fail
        exact bodyPost_ret (v := .tuple #[.slice x.a x.n x.c, .bool true]) (by simp [results, Try.results40, go_sem]) rfl (rdp_yes HG.out HX.out HR3.out.bl)
end Go.Proofs.Ytgeoadkcmbageaa
namespace Go.Proofs.Ytgeoadkcmbageaa
open Go.ChangeShapes Go.WideShapes Go.ChangeAt Go.RowKit
set_option linter.unusedVariables false
set_option linter.unusedSimpArgs false
set_option maxRecDepth 100000 in
set_option maxHeartbeats 2000000 in
theorem isopt53 (x : RA) (r : Rec) (w : World) : Calls Try.prog 53 #[.agg (recCells x r).toArray] w fun e w' => e = .returned (.bool (decide (r.t = 41))) ∧ Hid (Below w.heap.size w w') := by
  obtain ⟨⟨oa, on, oc⟩, ⟨⟨a1, n1, c1⟩, ⟨a2, n2, c2⟩, ⟨a3, n3, c3⟩, ⟨a4, n4, c4⟩⟩⟩ := x
  obtain ⟨ow, t, cl, tt, d⟩ := r
  show Calls Try.prog 53 #[.agg #[.slice oa on oc, .int .u16 (t : Int), .int .u16 (cl : Int), .int .u32 (tt : Int), .slice a1 n1 c1, .slice a2 n2 c2, .slice a3 n3 c3, .slice a4 n4 c4]] w _
  have HB : Hid (Below w.heap.size w (w.alloc (.cells #[.slice oa on oc, .int .u16 (t : Int), .int .u16 (cl : Int), .int .u32 (tt : Int), .slice a1 n1 c1, .slice a2 n2 c2, .slice a3 n3 c3, .slice a4 n4 c4] 37))) := newE_below _ _
  have hbx : (w.alloc (.cells #[.slice oa on oc, .int .u16 (t : Int), .int .u16 (cl : Int), .int .u32 (tt : Int), .slice a1 n1 c1, .slice a2 n2 c2, .slice a3 n3 c3, .slice a4 n4 c4] 37)).heap[w.heap.size]? = some (.cells #[.slice oa on oc, .int .u16 (t : Int), .int .u16 (cl : Int), .int .u32 (tt : Int), .slice a1 n1 c1, .slice a2 n2 c2, .slice a3 n3 c3, .slice a4 n4 c4] 37) := heap_alloc_new _ _
  have k1 := box_cell hbx 1 _ rfl
  have hlD := box_lt hbx
  clear hbx
  by_cases h : t = 41
  · subst h
    go_enter Try.func53, Try.ntmps53
    go_wp2
    go_ret
    exact ⟨rfl, HB.out⟩
  · have h2 : ((t : Int) == 41) = false := by simp; omega
    have h3 : ¬ (t : Int) = 41 := by omega
    go_enter Try.func53, Try.ntmps53
    go_wp2
    go_ret
    exact ⟨by simp [h], HB.out⟩
/-- A record is in the form, but for its options. -/
def InF (x : RA) (r : Rec) : Prop := r.t = 41 ∧ x.o.n = 0 ∧ r.tt % 32768 = 0 ∧ x.d.p1.n = 0 ∧ x.d.p2.n = 0 ∧ x.d.p3.n = 0 ∧ x.d.p4.n ≤ 65535
instance (x : RA) (r : Rec) : Decidable (InF x r) := by unfold InF; infer_instance
set_option maxRecDepth 100000 in
set_option maxHeartbeats 4000000 in
theorem inform39 (x : RA) (r : Rec) (w : World) (hc : r.tt < 4294967296) : Calls Try.prog 39 #[.agg (recCells x r).toArray] w fun e w' => e = .returned (.bool (decide (InF x r))) ∧ Hid (Below w.heap.size w w') := by
  have K53 := fun W => Lib.hid (isopt53 x r W)
  obtain ⟨B, hB⟩ : ∃ B, B = decide (InF x r) := ⟨_, rfl⟩
  have hB1 : ¬ InF x r → B = false := fun h => by rw [hB]; exact decide_eq_false h
  have hB2 : InF x r → B = true := fun h => by rw [hB]; exact decide_eq_true h
  rw [← hB]
  clear hB
  unfold InF at hB1 hB2
  obtain ⟨⟨oa, on, oc⟩, ⟨⟨a1, n1, c1⟩, ⟨a2, n2, c2⟩, ⟨a3, n3, c3⟩, ⟨a4, n4, c4⟩⟩⟩ := x
  obtain ⟨ow, t, cl, tt, d⟩ := r
  simp only [recCells] at K53 hB1 hB2 hc
  show Calls Try.prog 39 #[.agg #[.slice oa on oc, .int .u16 (t : Int), .int .u16 (cl : Int), .int .u32 (tt : Int), .slice a1 n1 c1, .slice a2 n2 c2, .slice a3 n3 c3, .slice a4 n4 c4]] w _
  have HIN : Hid ((¬ (t = 41 ∧ on = 0 ∧ tt % 32768 = 0 ∧ n1 = 0 ∧ n2 = 0 ∧ n3 = 0 ∧ n4 ≤ 65535) → B = false) ∧ ((t = 41 ∧ on = 0 ∧ tt % 32768 = 0 ∧ n1 = 0 ∧ n2 = 0 ∧ n3 = 0 ∧ n4 ≤ 65535) → B = true)) := ⟨hB1, hB2⟩
  clear hB1 hB2
  obtain ⟨V, hV⟩ : ∃ V, V = (w.alloc (.cells #[.slice oa on oc, .int .u16 (t : Int), .int .u16 (cl : Int), .int .u32 (tt : Int), .slice a1 n1 c1, .slice a2 n2 c2, .slice a3 n3 c3, .slice a4 n4 c4] 37)).alloc (.cells #[.slice a1 n1 c1, .slice a2 n2 c2, .slice a3 n3 c3, .slice a4 n4 c4] 35) := ⟨_, rfl⟩
  have HV : Hid (Below w.heap.size w V ∧ V.heap[w.heap.size]? = some (.cells #[.slice oa on oc, .int .u16 (t : Int), .int .u16 (cl : Int), .int .u32 (tt : Int), .slice a1 n1 c1, .slice a2 n2 c2, .slice a3 n3 c3, .slice a4 n4 c4] 37) ∧ V.heap[w.heap.size + 1]? = some (.cells #[.slice a1 n1 c1, .slice a2 n2 c2, .slice a3 n3 c3, .slice a4 n4 c4] 35)) := by
    rw [hV]
    refine ⟨((Below.refl _ _).alloc (Nat.le_refl _) _).alloc (by simp) _, block_alloc (alloc_at _ _) _, ?_⟩
    have := alloc_at (w.alloc (.cells #[.slice oa on oc, .int .u16 (t : Int), .int .u16 (cl : Int), .int .u32 (tt : Int), .slice a1 n1 c1, .slice a2 n2 c2, .slice a3 n3 c3, .slice a4 n4 c4] 37)) (.cells #[.slice a1 n1 c1, .slice a2 n2 c2, .slice a3 n3 c3, .slice a4 n4 c4] 35)
    simp only [World.size_alloc] at this
    exact this
  go_enter Try.func39, Try.ntmps39
  go_wp2_with fail
  rw [← hV]
  clear hV
  obtain ⟨b, hb⟩ : ∃ b, b = w.heap.size := ⟨_, rfl⟩
  have HBB : Hid (b = w.heap.size) := hb
  have HV0 : Hid (Below w.heap.size w V) := HV.out.1
  have HV1 : Hid (V.heap[b]? = some (.cells #[.slice oa on oc, .int .u16 (t : Int), .int .u16 (cl : Int), .int .u32 (tt : Int), .slice a1 n1 c1, .slice a2 n2 c2, .slice a3 n3 c3, .slice a4 n4 c4] 37)) := (show _ = _ by rw [hb]; exact HV.out.2.1)
  have HV2 : Hid (V.heap[b + 1]? = some (.cells #[.slice a1 n1 c1, .slice a2 n2 c2, .slice a3 n3 c3, .slice a4 n4 c4] 35)) := (show _ = _ by rw [hb]; exact HV.out.2.2)
  rw [← hb]
  clear hb HV
  obtain ⟨v0, v1, v2, v3, v4, v5, v6, v7⟩ := (show V.cell? ⟨b, 0, none⟩ = some (.slice oa on oc) ∧ V.cell? ⟨b, 1, none⟩ = some (.int .u16 (t : Int)) ∧ V.cell? ⟨b, 2, none⟩ = some (.int .u16 (cl : Int)) ∧ V.cell? ⟨b, 3, none⟩ = some (.int .u32 (tt : Int)) ∧ V.cell? ⟨b, 4, none⟩ = some (.slice a1 n1 c1) ∧ V.cell? ⟨b, 5, none⟩ = some (.slice a2 n2 c2) ∧ V.cell? ⟨b, 6, none⟩ = some (.slice a3 n3 c3) ∧ V.cell? ⟨b, 7, none⟩ = some (.slice a4 n4 c4) from ⟨box_cell HV1.out 0 _ rfl, box_cell HV1.out 1 _ rfl, box_cell HV1.out 2 _ rfl, box_cell HV1.out 3 _ rfl, box_cell HV1.out 4 _ rfl, box_cell HV1.out 5 _ rfl, box_cell HV1.out 6 _ rfl, box_cell HV1.out 7 _ rfl⟩)
  have q0 := box_lt HV1.out
  go_wp2_with fail
  refine (K53 V).out.mono ?_
  rintro e w1 ⟨rfl, H1⟩
  have m1 := (H1.out.block b (box_lt HV1.out)).trans HV1.out
  have m2 := (H1.out.block (b + 1) (box_lt HV2.out)).trans HV2.out
  clear v0 v1 v2 v3 v4 v5 v6 v7
  have HB : Hid (Below w.heap.size w w1) := HV0.out.trans (H1.out.mono HV0.out.size)
  have k0 := box_cell m1 0 _ rfl
  have k3 := box_cell m1 3 _ rfl
  have l0 := box_cell m2 0 _ rfl
  have l1 := box_cell m2 1 _ rfl
  have l2 := box_cell m2 2 _ rfl
  have l3 := box_cell m2 3 _ rfl
  have s1 := box_lt m1
  have s2 := box_lt m2
  clear m1 m2 q0
  by_cases h0 : t = 41
  · rw [decide_eq_true h0]
    by_cases g0 : (on : Int) = 0
    · have e0 : (decide ((on : Int) = 0)) = true := decide_eq_true g0
      by_cases g1 : (tt : Int) % 32768 = 0
      · have e1 : (decide ((tt : Int) % 32768 = 0)) = true := decide_eq_true g1
        by_cases g2 : (n1 : Int) = 0
        · have e2 : (decide ((n1 : Int) = 0)) = true := decide_eq_true g2
          by_cases g3 : (n2 : Int) = 0
          · have e3 : (decide ((n2 : Int) = 0)) = true := decide_eq_true g3
            by_cases g4 : (n3 : Int) = 0
            · have e4 : (decide ((n3 : Int) = 0)) = true := decide_eq_true g4
              by_cases g5 : (n4 : Int) ≤ 65535
              · have e5 : (decide ((n4 : Int) ≤ 65535)) = true := decide_eq_true g5
                have hT : B = true := HIN.out.2 ⟨by omega, by omega, by omega, by omega, by omega, by omega, by omega⟩
                clear HIN
                subst hT
                go_wp2
                go_ret
                exact ⟨rfl, HB.out⟩
              · have hF : B = false := HIN.out.1 (by omega)
                clear HIN
                subst hF
                go_wp2
                go_ret
                exact ⟨(by show Ending.returned (Value.bool (decide ((n4 : Int) ≤ 65535))) = _; rw [decide_eq_false (by omega)]), HB.out⟩
            · have hF : B = false := HIN.out.1 (by omega)
              clear HIN
              subst hF
              go_wp2
              go_ret
              exact ⟨rfl, HB.out⟩
          · have hF : B = false := HIN.out.1 (by omega)
            clear HIN
            subst hF
            go_wp2
            go_ret
            exact ⟨rfl, HB.out⟩
        · have hF : B = false := HIN.out.1 (by omega)
          clear HIN
          subst hF
          go_wp2
          go_ret
          exact ⟨rfl, HB.out⟩
      · have hF : B = false := HIN.out.1 (by omega)
        clear HIN
        subst hF
        go_wp2
        go_ret
        exact ⟨rfl, HB.out⟩
    · have hF : B = false := HIN.out.1 (by omega)
      clear HIN
      subst hF
      go_wp2
      go_ret
      exact ⟨rfl, HB.out⟩
  · have hF : B = false := HIN.out.1 (by omega)
    rw [decide_eq_false h0]
    clear HIN
    subst hF
    go_wp2
    go_ret
    exact ⟨rfl, HB.out⟩
end Go.Proofs.Ytgeoadkcmbageaa
namespace Go.Proofs.Ytgeoadkcmbageaa
open Go.ChangeShapes Go.WideShapes Go.ChangeAt Go.RowKit
set_option linter.unusedVariables false
set_option linter.unusedSimpArgs false
theorem put5e {w : World} {g : Nat} {v0 v1 v2 v3 v4 : Value} {t : TypeId} (h : w.heap[g]? = some (.cells #[v0, v1, v2, v3, v4] t)) (x0 x1 x2 x3 x4 : Value) : (((((w.setCell ⟨g, 0, none⟩ x0).setCell ⟨g, 1, none⟩ x1).setCell ⟨g, 2, none⟩ x2).setCell ⟨g, 3, none⟩ x3).setCell ⟨g, 4, none⟩ x4).heap[g]? = some (.cells #[x0, x1, x2, x3, x4] t) := by
  have h0 : (w.setCell ⟨g, 0, none⟩ x0).heap[g]? = some (.cells #[x0, v1, v2, v3, v4] t) := heap_set h 0 x0
  have h1 : ((w.setCell ⟨g, 0, none⟩ x0).setCell ⟨g, 1, none⟩ x1).heap[g]? = some (.cells #[x0, x1, v2, v3, v4] t) := heap_set h0 1 x1
  have h2 : (((w.setCell ⟨g, 0, none⟩ x0).setCell ⟨g, 1, none⟩ x1).setCell ⟨g, 2, none⟩ x2).heap[g]? = some (.cells #[x0, x1, x2, v3, v4] t) := heap_set h1 2 x2
  have h3 : ((((w.setCell ⟨g, 0, none⟩ x0).setCell ⟨g, 1, none⟩ x1).setCell ⟨g, 2, none⟩ x2).setCell ⟨g, 3, none⟩ x3).heap[g]? = some (.cells #[x0, x1, x2, x3, v4] t) := heap_set h2 3 x3
  have h4 : (((((w.setCell ⟨g, 0, none⟩ x0).setCell ⟨g, 1, none⟩ x1).setCell ⟨g, 2, none⟩ x2).setCell ⟨g, 3, none⟩ x3).setCell ⟨g, 4, none⟩ x4).heap[g]? = some (.cells #[x0, x1, x2, x3, x4] t) := heap_set h3 4 x4
  exact h4
theorem put5e_below (w : World) (g : Nat) (x0 x1 x2 x3 x4 : Value) : Below g w (((((w.setCell ⟨g, 0, none⟩ x0).setCell ⟨g, 1, none⟩ x1).setCell ⟨g, 2, none⟩ x2).setCell ⟨g, 3, none⟩ x3).setCell ⟨g, 4, none⟩ x4) :=
  (((((Below.refl g w).setCell (p := ⟨g, 0, none⟩) (Nat.le_refl g) x0).setCell (p := ⟨g, 1, none⟩) (Nat.le_refl g) x1).setCell (p := ⟨g, 2, none⟩) (Nat.le_refl g) x2).setCell (p := ⟨g, 3, none⟩) (Nat.le_refl g) x3).setCell (p := ⟨g, 4, none⟩) (Nat.le_refl g) x4
theorem put5e_other (w : World) (g : Nat) (x0 x1 x2 x3 x4 : Value) (j : Nat) (h : j ≠ g) : (((((w.setCell ⟨g, 0, none⟩ x0).setCell ⟨g, 1, none⟩ x1).setCell ⟨g, 2, none⟩ x2).setCell ⟨g, 3, none⟩ x3).setCell ⟨g, 4, none⟩ x4).heap[j]? = w.heap[j]? := by
  rw [Below.heap_setCell _ _ _ _ h, Below.heap_setCell _ _ _ _ h, Below.heap_setCell _ _ _ _ h, Below.heap_setCell _ _ _ _ h, Below.heap_setCell _ _ _ _ h]
theorem and32 (a : Nat) (ha : a < 4294967296) : (bits .and .u32 (a : Int) 32768 != 0) = decide (a / 32768 % 2 = 1) := by
  have hx : a &&& 32768 < 2 ^ 32 := Nat.and_lt_two_pow _ (by omega)
  have h1 : (BitVec.ofInt 32 (a : Int)).toNat = a := by
    rw [BitVec.ofInt_natCast, BitVec.toNat_ofNat]; exact Nat.mod_eq_of_lt (by omega)
  have h2 : (BitVec.ofInt 32 32768).toNat = 32768 := by decide
  have h3 : bits .and .u32 (a : Int) 32768 = ((a &&& 32768 : Nat) : Int) := by
    show IntKind.u32.wrap ((BitVec.ofInt 32 (a : Int) &&& BitVec.ofInt 32 32768).toNat : Int) = _
    rw [BitVec.toNat_and, h1, h2, IntKind.wrap_u32]
    omega
  rw [h3, show 32768 = 2 ^ 15 from rfl, nat_and_bit]
  unfold unfl
  rw [show (2 : Nat) ^ 15 = 32768 from rfl]
  rcases Nat.mod_two_eq_zero_or_one (a / 32768) with h | h
  · simp [h]
  · simp [h]
/-- What a record says. -/
def edE (r : Rec) (l : List Opt) : Edn := ⟨(r.cl : Int), ((r.tt / 16777216 : Nat) : Int), ((r.tt % 16777216 / 65536 : Nat) : Int), decide (r.tt / 32768 % 2 = 1), l⟩
set_option maxRecDepth 100000 in
set_option maxHeartbeats 4000000 in
theorem read13_form (x : RA) (r : Rec) (w : World) (hc : r.tt < 4294967296) (hf : ¬ InF x r) : Calls Try.prog 13 #[.agg (recCells x r).toArray] w fun e w' => e = .returned (.tuple #[.agg #[.int .i64 0, .int .i64 0, .int .i64 0, .bool false, .slice none 0 0], .int .i64 8]) ∧ Hid (Below w.heap.size w w') := by
  have K39 := fun W => Lib.hid (inform39 x r W hc)
  have HF : Hid (decide (InF x r) = false) := decide_eq_false hf
  clear hf
  obtain ⟨⟨oa, on, oc⟩, ⟨⟨a1, n1, c1⟩, ⟨a2, n2, c2⟩, ⟨a3, n3, c3⟩, ⟨a4, n4, c4⟩⟩⟩ := x
  obtain ⟨ow, t, cl, tt, d⟩ := r
  simp only [recCells] at *
  show Calls Try.prog 13 #[.agg #[.slice oa on oc, .int .u16 (t : Int), .int .u16 (cl : Int), .int .u32 (tt : Int), .slice a1 n1 c1, .slice a2 n2 c2, .slice a3 n3 c3, .slice a4 n4 c4]] w _
  obtain ⟨V, hV⟩ : ∃ V, V = (w.alloc (.cells #[.slice oa on oc, .int .u16 (t : Int), .int .u16 (cl : Int), .int .u32 (tt : Int), .slice a1 n1 c1, .slice a2 n2 c2, .slice a3 n3 c3, .slice a4 n4 c4] 37)).alloc (.cells #[.int .i64 0, .int .i64 0, .int .i64 0, .bool false, .slice none 0 0] 24) := ⟨_, rfl⟩
  have HV : Hid (Below w.heap.size w V ∧ V.heap[w.heap.size]? = some (.cells #[.slice oa on oc, .int .u16 (t : Int), .int .u16 (cl : Int), .int .u32 (tt : Int), .slice a1 n1 c1, .slice a2 n2 c2, .slice a3 n3 c3, .slice a4 n4 c4] 37) ∧ V.heap[w.heap.size + 1]? = some (.cells #[.int .i64 0, .int .i64 0, .int .i64 0, .bool false, .slice none 0 0] 24)) := by
    rw [hV]
    refine ⟨((Below.refl _ _).alloc (Nat.le_refl _) _).alloc (by simp) _, block_alloc (alloc_at _ _) _, ?_⟩
    have := alloc_at (w.alloc (.cells #[.slice oa on oc, .int .u16 (t : Int), .int .u16 (cl : Int), .int .u32 (tt : Int), .slice a1 n1 c1, .slice a2 n2 c2, .slice a3 n3 c3, .slice a4 n4 c4] 37)) (.cells #[.int .i64 0, .int .i64 0, .int .i64 0, .bool false, .slice none 0 0] 24)
    simp only [World.size_alloc] at this
    exact this
  go_enter Try.func13, Try.ntmps13
  go_wp2_with fail
  rw [← hV]
  clear hV
  obtain ⟨b, hb⟩ : ∃ b, b = w.heap.size := ⟨_, rfl⟩
  have HBB : Hid (b = w.heap.size) := hb
  have HV0 : Hid (Below w.heap.size w V) := HV.out.1
  have HV1 : Hid (V.heap[b]? = some (.cells #[.slice oa on oc, .int .u16 (t : Int), .int .u16 (cl : Int), .int .u32 (tt : Int), .slice a1 n1 c1, .slice a2 n2 c2, .slice a3 n3 c3, .slice a4 n4 c4] 37)) := (show _ = _ by rw [hb]; exact HV.out.2.1)
  have HV2 : Hid (V.heap[b + 1]? = some (.cells #[.int .i64 0, .int .i64 0, .int .i64 0, .bool false, .slice none 0 0] 24)) := (show _ = _ by rw [hb]; exact HV.out.2.2)
  rw [← hb]
  clear hb HV
  obtain ⟨v0, v1, v2, v3, v4, v5, v6, v7⟩ := (show V.cell? ⟨b, 0, none⟩ = some (.slice oa on oc) ∧ V.cell? ⟨b, 1, none⟩ = some (.int .u16 (t : Int)) ∧ V.cell? ⟨b, 2, none⟩ = some (.int .u16 (cl : Int)) ∧ V.cell? ⟨b, 3, none⟩ = some (.int .u32 (tt : Int)) ∧ V.cell? ⟨b, 4, none⟩ = some (.slice a1 n1 c1) ∧ V.cell? ⟨b, 5, none⟩ = some (.slice a2 n2 c2) ∧ V.cell? ⟨b, 6, none⟩ = some (.slice a3 n3 c3) ∧ V.cell? ⟨b, 7, none⟩ = some (.slice a4 n4 c4) from ⟨box_cell HV1.out 0 _ rfl, box_cell HV1.out 1 _ rfl, box_cell HV1.out 2 _ rfl, box_cell HV1.out 3 _ rfl, box_cell HV1.out 4 _ rfl, box_cell HV1.out 5 _ rfl, box_cell HV1.out 6 _ rfl, box_cell HV1.out 7 _ rfl⟩)
  have q0 := box_lt HV1.out
  go_wp2_with fail
  refine (K39 V).out.mono ?_
  rintro e w1 ⟨rfl, H1⟩
  have m1 := (H1.out.block b (box_lt HV1.out)).trans HV1.out
  have m2 := (H1.out.block (b + 1) (box_lt HV2.out)).trans HV2.out
  have HM1 := Lib.hid m1
  have HM2 := Lib.hid m2
  clear v0 v1 v2 v3 v4 v5 v6 v7 m1 m2 q0
  have HB1 : Hid (Below w.heap.size w w1) := HV0.out.trans (H1.out.mono HV0.out.size)
  rw [HF.out]
  have z := HM2
  have z0 : w1.cell? ⟨b + 1, 0, none⟩ = some (.int .i64 0) := (cell_of_block z.out rfl)
  have z1 : w1.cell? ⟨b + 1, 1, none⟩ = some (.int .i64 0) := (cell_of_block z.out rfl)
  have z2 : w1.cell? ⟨b + 1, 2, none⟩ = some (.int .i64 0) := (cell_of_block z.out rfl)
  have z3 : w1.cell? ⟨b + 1, 3, none⟩ = some (.bool false) := (cell_of_block z.out rfl)
  have z4 : w1.cell? ⟨b + 1, 4, none⟩ = some (.slice none 0 0) := (cell_of_block z.out rfl)
  have f0 : w1.frozen? ⟨b + 1, 0, none⟩ = false := (frozen_of_block z.out)
  have f1 : w1.frozen? ⟨b + 1, 1, none⟩ = false := (frozen_of_block z.out)
  have f2 : w1.frozen? ⟨b + 1, 2, none⟩ = false := (frozen_of_block z.out)
  have f3 : w1.frozen? ⟨b + 1, 3, none⟩ = false := (frozen_of_block z.out)
  have f4 : w1.frozen? ⟨b + 1, 4, none⟩ = false := (frozen_of_block z.out)
  have p7 := block_lt z.out
  go_wp2_with fail
  have z8 : (((((w1.setCell ⟨b + 1, 0, none⟩ (.int .i64 0)).setCell ⟨b + 1, 1, none⟩ (.int .i64 0)).setCell ⟨b + 1, 2, none⟩ (.int .i64 0)).setCell ⟨b + 1, 3, none⟩ (.bool false)).setCell ⟨b + 1, 4, none⟩ (.slice none 0 0)).heap[b + 1]? = some (.cells #[.int .i64 0, .int .i64 0, .int .i64 0, .bool false, .slice none 0 0] 24) := put5e z.out _ _ _ _ _
  have HO8 : Hid (∀ j, j ≠ b + 1 → (((((w1.setCell ⟨b + 1, 0, none⟩ (.int .i64 0)).setCell ⟨b + 1, 1, none⟩ (.int .i64 0)).setCell ⟨b + 1, 2, none⟩ (.int .i64 0)).setCell ⟨b + 1, 3, none⟩ (.bool false)).setCell ⟨b + 1, 4, none⟩ (.slice none 0 0)).heap[j]? = w1.heap[j]?) := fun j hj => put5e_other w1 (b + 1) _ _ _ _ _ j hj
  have HB8 : Hid (Below (b + 1) w1 (((((w1.setCell ⟨b + 1, 0, none⟩ (.int .i64 0)).setCell ⟨b + 1, 1, none⟩ (.int .i64 0)).setCell ⟨b + 1, 2, none⟩ (.int .i64 0)).setCell ⟨b + 1, 3, none⟩ (.bool false)).setCell ⟨b + 1, 4, none⟩ (.slice none 0 0))) := put5e_below w1 (b + 1) _ _ _ _ _
  generalize (((((w1.setCell ⟨b + 1, 0, none⟩ (.int .i64 0)).setCell ⟨b + 1, 1, none⟩ (.int .i64 0)).setCell ⟨b + 1, 2, none⟩ (.int .i64 0)).setCell ⟨b + 1, 3, none⟩ (.bool false)).setCell ⟨b + 1, 4, none⟩ (.slice none 0 0)) = w8 at *
  have y0 : w8.cell? ⟨b + 1, 0, none⟩ = some (.int .i64 0) := cell_of_block z8 rfl
  have y1 : w8.cell? ⟨b + 1, 1, none⟩ = some (.int .i64 0) := cell_of_block z8 rfl
  have y2 : w8.cell? ⟨b + 1, 2, none⟩ = some (.int .i64 0) := cell_of_block z8 rfl
  have y3 : w8.cell? ⟨b + 1, 3, none⟩ = some (.bool false) := cell_of_block z8 rfl
  have y4 : w8.cell? ⟨b + 1, 4, none⟩ = some (.slice none 0 0) := cell_of_block z8 rfl
  have y8 := block_lt z8
  clear z8 z0 f0 z1 f1 z2 f2 z3 f3 z4 f4
  have hbb := HBB.out
  have HBW : Hid (Below w.heap.size w w8) := HB1.out.trans (HB8.out.mono (by omega))
  refine bodyPost_ret (v := .tuple #[.agg #[.int .i64 0, .int .i64 0, .int .i64 0, .bool false, .slice none 0 0], .int .i64 8]) ?_ rfl ⟨rfl, HBW.out⟩
  simp [results, Try.results13, go_sem, y0, y1, y2, y3, y4]
set_option maxRecDepth 100000 in
set_option maxHeartbeats 4000000 in
theorem read13_no (x : RA) (r : Rec) (w : World) (hc : r.tt < 4294967296) (hf : InF x r) (hr : BRd w x.d.p4 r.d.raw) (hg : gopt r.d.raw = none) : Calls Try.prog 13 #[.agg (recCells x r).toArray] w fun e w' => e = .returned (.tuple #[.agg #[.int .i64 0, .int .i64 0, .int .i64 0, .bool false, .slice none 0 0], .int .i64 8]) ∧ Hid (Below w.heap.size w w') := by
  have K39 := fun W => Lib.hid (inform39 x r W hc)
  have HF : Hid (InF x r) := hf
  have HRD : Hid (BRd w x.d.p4 r.d.raw) := hr
  have HG : Hid (gopt r.d.raw = none) := hg
  clear hf hr hg
  obtain ⟨⟨oa, on, oc⟩, ⟨⟨a1, n1, c1⟩, ⟨a2, n2, c2⟩, ⟨a3, n3, c3⟩, ⟨a4, n4, c4⟩⟩⟩ := x
  obtain ⟨ow, t, cl, tt, d⟩ := r
  simp only [recCells] at *
  show Calls Try.prog 13 #[.agg #[.slice oa on oc, .int .u16 (t : Int), .int .u16 (cl : Int), .int .u32 (tt : Int), .slice a1 n1 c1, .slice a2 n2 c2, .slice a3 n3 c3, .slice a4 n4 c4]] w _
  obtain ⟨V, hV⟩ : ∃ V, V = (w.alloc (.cells #[.slice oa on oc, .int .u16 (t : Int), .int .u16 (cl : Int), .int .u32 (tt : Int), .slice a1 n1 c1, .slice a2 n2 c2, .slice a3 n3 c3, .slice a4 n4 c4] 37)).alloc (.cells #[.int .i64 0, .int .i64 0, .int .i64 0, .bool false, .slice none 0 0] 24) := ⟨_, rfl⟩
  have HV : Hid (Below w.heap.size w V ∧ V.heap[w.heap.size]? = some (.cells #[.slice oa on oc, .int .u16 (t : Int), .int .u16 (cl : Int), .int .u32 (tt : Int), .slice a1 n1 c1, .slice a2 n2 c2, .slice a3 n3 c3, .slice a4 n4 c4] 37) ∧ V.heap[w.heap.size + 1]? = some (.cells #[.int .i64 0, .int .i64 0, .int .i64 0, .bool false, .slice none 0 0] 24)) := by
    rw [hV]
    refine ⟨((Below.refl _ _).alloc (Nat.le_refl _) _).alloc (by simp) _, block_alloc (alloc_at _ _) _, ?_⟩
    have := alloc_at (w.alloc (.cells #[.slice oa on oc, .int .u16 (t : Int), .int .u16 (cl : Int), .int .u32 (tt : Int), .slice a1 n1 c1, .slice a2 n2 c2, .slice a3 n3 c3, .slice a4 n4 c4] 37)) (.cells #[.int .i64 0, .int .i64 0, .int .i64 0, .bool false, .slice none 0 0] 24)
    simp only [World.size_alloc] at this
    exact this
  go_enter Try.func13, Try.ntmps13
  go_wp2_with fail
  rw [← hV]
  clear hV
  obtain ⟨b, hb⟩ : ∃ b, b = w.heap.size := ⟨_, rfl⟩
  have HBB : Hid (b = w.heap.size) := hb
  have HV0 : Hid (Below w.heap.size w V) := HV.out.1
  have HV1 : Hid (V.heap[b]? = some (.cells #[.slice oa on oc, .int .u16 (t : Int), .int .u16 (cl : Int), .int .u32 (tt : Int), .slice a1 n1 c1, .slice a2 n2 c2, .slice a3 n3 c3, .slice a4 n4 c4] 37)) := (show _ = _ by rw [hb]; exact HV.out.2.1)
  have HV2 : Hid (V.heap[b + 1]? = some (.cells #[.int .i64 0, .int .i64 0, .int .i64 0, .bool false, .slice none 0 0] 24)) := (show _ = _ by rw [hb]; exact HV.out.2.2)
  rw [← hb]
  clear hb HV
  obtain ⟨v0, v1, v2, v3, v4, v5, v6, v7⟩ := (show V.cell? ⟨b, 0, none⟩ = some (.slice oa on oc) ∧ V.cell? ⟨b, 1, none⟩ = some (.int .u16 (t : Int)) ∧ V.cell? ⟨b, 2, none⟩ = some (.int .u16 (cl : Int)) ∧ V.cell? ⟨b, 3, none⟩ = some (.int .u32 (tt : Int)) ∧ V.cell? ⟨b, 4, none⟩ = some (.slice a1 n1 c1) ∧ V.cell? ⟨b, 5, none⟩ = some (.slice a2 n2 c2) ∧ V.cell? ⟨b, 6, none⟩ = some (.slice a3 n3 c3) ∧ V.cell? ⟨b, 7, none⟩ = some (.slice a4 n4 c4) from ⟨box_cell HV1.out 0 _ rfl, box_cell HV1.out 1 _ rfl, box_cell HV1.out 2 _ rfl, box_cell HV1.out 3 _ rfl, box_cell HV1.out 4 _ rfl, box_cell HV1.out 5 _ rfl, box_cell HV1.out 6 _ rfl, box_cell HV1.out 7 _ rfl⟩)
  have q0 := box_lt HV1.out
  go_wp2_with fail
  refine (K39 V).out.mono ?_
  rintro e w1 ⟨rfl, H1⟩
  have m1 := (H1.out.block b (box_lt HV1.out)).trans HV1.out
  have m2 := (H1.out.block (b + 1) (box_lt HV2.out)).trans HV2.out
  have HM1 := Lib.hid m1
  have HM2 := Lib.hid m2
  clear v0 v1 v2 v3 v4 v5 v6 v7 m1 m2 q0
  have HB1 : Hid (Below w.heap.size w w1) := HV0.out.trans (H1.out.mono HV0.out.size)
  rw [decide_eq_true HF.out]
  have k7 := box_cell HM1.out 7 _ rfl
  have s1 := box_lt HM1.out
  have K40 := Lib.hid (read40 ⟨a4, n4, c4⟩ d.raw w1 (HRD.out.below HB1.out) (show n4 ≤ 1000000 by have := HF.out.2.2.2.2.2.2; simp only at this; omega))
  go_wp2_with fail
  refine K40.out.mono ?_
  rintro e w2 (⟨l, y, e1, rfl, H2⟩ | ⟨e1, rfl, H2⟩)
  · rw [HG.out] at e1; cases e1
  have z := Lib.hid ((H2.out.block (b + 1) (box_lt HM2.out)).trans HM2.out)
  have HB2 : Hid (Below w.heap.size w w2) := HB1.out.trans (H2.out.mono HB1.out.size)
  clear k7 s1 K40
  have z0 : w2.cell? ⟨b + 1, 0, none⟩ = some (.int .i64 0) := (cell_of_block z.out rfl)
  have z1 : w2.cell? ⟨b + 1, 1, none⟩ = some (.int .i64 0) := (cell_of_block z.out rfl)
  have z2 : w2.cell? ⟨b + 1, 2, none⟩ = some (.int .i64 0) := (cell_of_block z.out rfl)
  have z3 : w2.cell? ⟨b + 1, 3, none⟩ = some (.bool false) := (cell_of_block z.out rfl)
  have z4 : w2.cell? ⟨b + 1, 4, none⟩ = some (.slice none 0 0) := (cell_of_block z.out rfl)
  have f0 : w2.frozen? ⟨b + 1, 0, none⟩ = false := (frozen_of_block z.out)
  have f1 : w2.frozen? ⟨b + 1, 1, none⟩ = false := (frozen_of_block z.out)
  have f2 : w2.frozen? ⟨b + 1, 2, none⟩ = false := (frozen_of_block z.out)
  have f3 : w2.frozen? ⟨b + 1, 3, none⟩ = false := (frozen_of_block z.out)
  have f4 : w2.frozen? ⟨b + 1, 4, none⟩ = false := (frozen_of_block z.out)
  have p7 := block_lt z.out
  go_wp2_with fail
  have z8 : (((((w2.setCell ⟨b + 1, 0, none⟩ (.int .i64 0)).setCell ⟨b + 1, 1, none⟩ (.int .i64 0)).setCell ⟨b + 1, 2, none⟩ (.int .i64 0)).setCell ⟨b + 1, 3, none⟩ (.bool false)).setCell ⟨b + 1, 4, none⟩ (.slice none 0 0)).heap[b + 1]? = some (.cells #[.int .i64 0, .int .i64 0, .int .i64 0, .bool false, .slice none 0 0] 24) := put5e z.out _ _ _ _ _
  have HO8 : Hid (∀ j, j ≠ b + 1 → (((((w2.setCell ⟨b + 1, 0, none⟩ (.int .i64 0)).setCell ⟨b + 1, 1, none⟩ (.int .i64 0)).setCell ⟨b + 1, 2, none⟩ (.int .i64 0)).setCell ⟨b + 1, 3, none⟩ (.bool false)).setCell ⟨b + 1, 4, none⟩ (.slice none 0 0)).heap[j]? = w2.heap[j]?) := fun j hj => put5e_other w2 (b + 1) _ _ _ _ _ j hj
  have HB8 : Hid (Below (b + 1) w2 (((((w2.setCell ⟨b + 1, 0, none⟩ (.int .i64 0)).setCell ⟨b + 1, 1, none⟩ (.int .i64 0)).setCell ⟨b + 1, 2, none⟩ (.int .i64 0)).setCell ⟨b + 1, 3, none⟩ (.bool false)).setCell ⟨b + 1, 4, none⟩ (.slice none 0 0))) := put5e_below w2 (b + 1) _ _ _ _ _
  generalize (((((w2.setCell ⟨b + 1, 0, none⟩ (.int .i64 0)).setCell ⟨b + 1, 1, none⟩ (.int .i64 0)).setCell ⟨b + 1, 2, none⟩ (.int .i64 0)).setCell ⟨b + 1, 3, none⟩ (.bool false)).setCell ⟨b + 1, 4, none⟩ (.slice none 0 0)) = w8 at *
  have y0 : w8.cell? ⟨b + 1, 0, none⟩ = some (.int .i64 0) := cell_of_block z8 rfl
  have y1 : w8.cell? ⟨b + 1, 1, none⟩ = some (.int .i64 0) := cell_of_block z8 rfl
  have y2 : w8.cell? ⟨b + 1, 2, none⟩ = some (.int .i64 0) := cell_of_block z8 rfl
  have y3 : w8.cell? ⟨b + 1, 3, none⟩ = some (.bool false) := cell_of_block z8 rfl
  have y4 : w8.cell? ⟨b + 1, 4, none⟩ = some (.slice none 0 0) := cell_of_block z8 rfl
  have y8 := block_lt z8
  clear z8 z0 f0 z1 f1 z2 f2 z3 f3 z4 f4
  have hbb := HBB.out
  have HBW : Hid (Below w.heap.size w w8) := HB2.out.trans (HB8.out.mono (by omega))
  refine bodyPost_ret (v := .tuple #[.agg #[.int .i64 0, .int .i64 0, .int .i64 0, .bool false, .slice none 0 0], .int .i64 8]) ?_ rfl ⟨rfl, HBW.out⟩
  simp [results, Try.results13, go_sem, y0, y1, y2, y3, y4]
set_option maxRecDepth 100000 in
set_option maxHeartbeats 4000000 in
theorem read13_yes (x : RA) (r : Rec) (w : World) (l : List Opt) (hc : r.tt < 4294967296) (hcl : r.cl < 65536) (hf : InF x r) (hr : BRd w x.d.p4 r.d.raw) (hg : gopt r.d.raw = some l) : Calls Try.prog 13 #[.agg (recCells x r).toArray] w fun e w' => ∃ s : Sl, e = .returned (.tuple #[.agg #[.int .i64 (edE r l).sz, .int .i64 (edE r l).hi, .int .i64 (edE r l).ve, .bool (edE r l).dd, .slice s.a s.n s.c], .int .i64 0]) ∧ Hid (OwO w.heap.size w' (.slice s.a s.n s.c) l ∧ Below w.heap.size w w') := by
  have K39 := fun W => Lib.hid (inform39 x r W hc)
  have HF : Hid (InF x r) := hf
  have HRD : Hid (BRd w x.d.p4 r.d.raw) := hr
  have HG : Hid (gopt r.d.raw = some l) := hg
  have hF := and32 r.tt hc
  clear hf hr hg
  have HED : Hid ((edE r l).sz = (r.cl : Int) ∧ (edE r l).hi = (r.tt : Int) / 16777216 ∧ (edE r l).ve = (r.tt : Int) % 16777216 / 65536 ∧ (edE r l).dd = decide (r.tt / 32768 % 2 = 1)) := ⟨rfl, by simp only [edE]; omega, by simp only [edE]; omega, rfl⟩
  generalize edE r l = Q at *
  generalize decide (r.tt / 32768 % 2 = 1) = F at *
  obtain ⟨⟨oa, on, oc⟩, ⟨⟨a1, n1, c1⟩, ⟨a2, n2, c2⟩, ⟨a3, n3, c3⟩, ⟨a4, n4, c4⟩⟩⟩ := x
  obtain ⟨ow, t, cl, tt, d⟩ := r
  simp only [recCells] at *
  show Calls Try.prog 13 #[.agg #[.slice oa on oc, .int .u16 (t : Int), .int .u16 (cl : Int), .int .u32 (tt : Int), .slice a1 n1 c1, .slice a2 n2 c2, .slice a3 n3 c3, .slice a4 n4 c4]] w _
  obtain ⟨V, hV⟩ : ∃ V, V = (w.alloc (.cells #[.slice oa on oc, .int .u16 (t : Int), .int .u16 (cl : Int), .int .u32 (tt : Int), .slice a1 n1 c1, .slice a2 n2 c2, .slice a3 n3 c3, .slice a4 n4 c4] 37)).alloc (.cells #[.int .i64 0, .int .i64 0, .int .i64 0, .bool false, .slice none 0 0] 24) := ⟨_, rfl⟩
  have HV : Hid (Below w.heap.size w V ∧ V.heap[w.heap.size]? = some (.cells #[.slice oa on oc, .int .u16 (t : Int), .int .u16 (cl : Int), .int .u32 (tt : Int), .slice a1 n1 c1, .slice a2 n2 c2, .slice a3 n3 c3, .slice a4 n4 c4] 37) ∧ V.heap[w.heap.size + 1]? = some (.cells #[.int .i64 0, .int .i64 0, .int .i64 0, .bool false, .slice none 0 0] 24)) := by
    rw [hV]
    refine ⟨((Below.refl _ _).alloc (Nat.le_refl _) _).alloc (by simp) _, block_alloc (alloc_at _ _) _, ?_⟩
    have := alloc_at (w.alloc (.cells #[.slice oa on oc, .int .u16 (t : Int), .int .u16 (cl : Int), .int .u32 (tt : Int), .slice a1 n1 c1, .slice a2 n2 c2, .slice a3 n3 c3, .slice a4 n4 c4] 37)) (.cells #[.int .i64 0, .int .i64 0, .int .i64 0, .bool false, .slice none 0 0] 24)
    simp only [World.size_alloc] at this
    exact this
  go_enter Try.func13, Try.ntmps13
  go_wp2_with fail
  rw [← hV]
  clear hV
  obtain ⟨b, hb⟩ : ∃ b, b = w.heap.size := ⟨_, rfl⟩
  have HBB : Hid (b = w.heap.size) := hb
  have HV0 : Hid (Below w.heap.size w V) := HV.out.1
  have HV1 : Hid (V.heap[b]? = some (.cells #[.slice oa on oc, .int .u16 (t : Int), .int .u16 (cl : Int), .int .u32 (tt : Int), .slice a1 n1 c1, .slice a2 n2 c2, .slice a3 n3 c3, .slice a4 n4 c4] 37)) := (show _ = _ by rw [hb]; exact HV.out.2.1)
  have HV2 : Hid (V.heap[b + 1]? = some (.cells #[.int .i64 0, .int .i64 0, .int .i64 0, .bool false, .slice none 0 0] 24)) := (show _ = _ by rw [hb]; exact HV.out.2.2)
  rw [← hb]
  clear hb HV
  obtain ⟨v0, v1, v2, v3, v4, v5, v6, v7⟩ := (show V.cell? ⟨b, 0, none⟩ = some (.slice oa on oc) ∧ V.cell? ⟨b, 1, none⟩ = some (.int .u16 (t : Int)) ∧ V.cell? ⟨b, 2, none⟩ = some (.int .u16 (cl : Int)) ∧ V.cell? ⟨b, 3, none⟩ = some (.int .u32 (tt : Int)) ∧ V.cell? ⟨b, 4, none⟩ = some (.slice a1 n1 c1) ∧ V.cell? ⟨b, 5, none⟩ = some (.slice a2 n2 c2) ∧ V.cell? ⟨b, 6, none⟩ = some (.slice a3 n3 c3) ∧ V.cell? ⟨b, 7, none⟩ = some (.slice a4 n4 c4) from ⟨box_cell HV1.out 0 _ rfl, box_cell HV1.out 1 _ rfl, box_cell HV1.out 2 _ rfl, box_cell HV1.out 3 _ rfl, box_cell HV1.out 4 _ rfl, box_cell HV1.out 5 _ rfl, box_cell HV1.out 6 _ rfl, box_cell HV1.out 7 _ rfl⟩)
  have q0 := box_lt HV1.out
  go_wp2_with fail
  refine (K39 V).out.mono ?_
  rintro e w1 ⟨rfl, H1⟩
  have m1 := (H1.out.block b (box_lt HV1.out)).trans HV1.out
  have m2 := (H1.out.block (b + 1) (box_lt HV2.out)).trans HV2.out
  have HM1 := Lib.hid m1
  have HM2 := Lib.hid m2
  clear v0 v1 v2 v3 v4 v5 v6 v7 m1 m2 q0
  have HB1 : Hid (Below w.heap.size w w1) := HV0.out.trans (H1.out.mono HV0.out.size)
  rw [decide_eq_true HF.out]
  have k7 := box_cell HM1.out 7 _ rfl
  have s1 := box_lt HM1.out
  have K40 := Lib.hid (read40 ⟨a4, n4, c4⟩ d.raw w1 (HRD.out.below HB1.out) (show n4 ≤ 1000000 by have := HF.out.2.2.2.2.2.2; simp only at this; omega))
  go_wp2_with fail
  refine K40.out.mono ?_
  rintro e w2 (⟨l', ⟨ya, yn, yc⟩, e1, rfl, H2⟩ | ⟨e1, rfl, H2⟩)
  rotate_left
  · rw [HG.out] at e1; cases e1
  have hll : l' = l := by rw [HG.out] at e1; exact (Option.some.inj e1).symm
  subst hll
  clear e1
  have z := Lib.hid ((H2.out.2.block (b + 1) (box_lt HM2.out)).trans HM2.out)
  have mm := (H2.out.2.block b (box_lt HM1.out)).trans HM1.out
  have k2 := box_cell mm 2 _ rfl
  have k3 := box_cell mm 3 _ rfl
  have sm := box_lt mm
  have HB2 : Hid (Below w.heap.size w w2) := HB1.out.trans (H2.out.2.mono HB1.out.size)
  clear k7 s1 K40 mm
  have hw1 : IntKind.i64.wrap (cl : Int) = (cl : Int) := by rw [IntKind.wrap_i64]; omega
  have hw2 : IntKind.i64.wrap ((tt : Int) / 16777216) = (tt : Int) / 16777216 := by rw [IntKind.wrap_i64]; omega
  have hw3 : IntKind.i64.wrap ((tt : Int) % 16777216 / 65536) = (tt : Int) % 16777216 / 65536 := by rw [IntKind.wrap_i64]; omega
  have z0 : w2.cell? ⟨b + 1, 0, none⟩ = some (.int .i64 0) := (cell_of_block z.out rfl)
  have z1 : w2.cell? ⟨b + 1, 1, none⟩ = some (.int .i64 0) := (cell_of_block z.out rfl)
  have z2 : w2.cell? ⟨b + 1, 2, none⟩ = some (.int .i64 0) := (cell_of_block z.out rfl)
  have z3 : w2.cell? ⟨b + 1, 3, none⟩ = some (.bool false) := (cell_of_block z.out rfl)
  have z4 : w2.cell? ⟨b + 1, 4, none⟩ = some (.slice none 0 0) := (cell_of_block z.out rfl)
  have f0 : w2.frozen? ⟨b + 1, 0, none⟩ = false := (frozen_of_block z.out)
  have f1 : w2.frozen? ⟨b + 1, 1, none⟩ = false := (frozen_of_block z.out)
  have f2 : w2.frozen? ⟨b + 1, 2, none⟩ = false := (frozen_of_block z.out)
  have f3 : w2.frozen? ⟨b + 1, 3, none⟩ = false := (frozen_of_block z.out)
  have f4 : w2.frozen? ⟨b + 1, 4, none⟩ = false := (frozen_of_block z.out)
  have p7 := block_lt z.out
  go_wp2_with fail
  have z8 : (((((w2.setCell ⟨b + 1, 0, none⟩ (.int .i64 (cl : Int))).setCell ⟨b + 1, 1, none⟩ (.int .i64 ((tt : Int) / 16777216))).setCell ⟨b + 1, 2, none⟩ (.int .i64 ((tt : Int) % 16777216 / 65536))).setCell ⟨b + 1, 3, none⟩ (.bool F)).setCell ⟨b + 1, 4, none⟩ (.slice ya yn yc)).heap[b + 1]? = some (.cells #[.int .i64 (cl : Int), .int .i64 ((tt : Int) / 16777216), .int .i64 ((tt : Int) % 16777216 / 65536), .bool F, .slice ya yn yc] 24) := put5e z.out _ _ _ _ _
  have HO8 : Hid (∀ j, j ≠ b + 1 → (((((w2.setCell ⟨b + 1, 0, none⟩ (.int .i64 (cl : Int))).setCell ⟨b + 1, 1, none⟩ (.int .i64 ((tt : Int) / 16777216))).setCell ⟨b + 1, 2, none⟩ (.int .i64 ((tt : Int) % 16777216 / 65536))).setCell ⟨b + 1, 3, none⟩ (.bool F)).setCell ⟨b + 1, 4, none⟩ (.slice ya yn yc)).heap[j]? = w2.heap[j]?) := fun j hj => put5e_other w2 (b + 1) _ _ _ _ _ j hj
  have HB8 : Hid (Below (b + 1) w2 (((((w2.setCell ⟨b + 1, 0, none⟩ (.int .i64 (cl : Int))).setCell ⟨b + 1, 1, none⟩ (.int .i64 ((tt : Int) / 16777216))).setCell ⟨b + 1, 2, none⟩ (.int .i64 ((tt : Int) % 16777216 / 65536))).setCell ⟨b + 1, 3, none⟩ (.bool F)).setCell ⟨b + 1, 4, none⟩ (.slice ya yn yc))) := put5e_below w2 (b + 1) _ _ _ _ _
  generalize (((((w2.setCell ⟨b + 1, 0, none⟩ (.int .i64 (cl : Int))).setCell ⟨b + 1, 1, none⟩ (.int .i64 ((tt : Int) / 16777216))).setCell ⟨b + 1, 2, none⟩ (.int .i64 ((tt : Int) % 16777216 / 65536))).setCell ⟨b + 1, 3, none⟩ (.bool F)).setCell ⟨b + 1, 4, none⟩ (.slice ya yn yc)) = w8 at *
  have y0 : w8.cell? ⟨b + 1, 0, none⟩ = some (.int .i64 (cl : Int)) := cell_of_block z8 rfl
  have y1 : w8.cell? ⟨b + 1, 1, none⟩ = some (.int .i64 ((tt : Int) / 16777216)) := cell_of_block z8 rfl
  have y2 : w8.cell? ⟨b + 1, 2, none⟩ = some (.int .i64 ((tt : Int) % 16777216 / 65536)) := cell_of_block z8 rfl
  have y3 : w8.cell? ⟨b + 1, 3, none⟩ = some (.bool F) := cell_of_block z8 rfl
  have y4 : w8.cell? ⟨b + 1, 4, none⟩ = some (.slice ya yn yc) := cell_of_block z8 rfl
  have y8 := block_lt z8
  clear z8 z0 f0 z1 f1 z2 f2 z3 f3 z4 f4
  have hbb := HBB.out
  have HBW : Hid (Below w.heap.size w w8) := HB2.out.trans (HB8.out.mono (by omega))
  refine bodyPost_ret (v := .tuple #[.agg #[.int .i64 (cl : Int), .int .i64 ((tt : Int) / 16777216), .int .i64 ((tt : Int) % 16777216 / 65536), .bool F, .slice ya yn yc], .int .i64 0]) ?_ rfl ⟨⟨ya, yn, yc⟩, by rw [HED.out.1, HED.out.2.1, HED.out.2.2.1, HED.out.2.2.2], ?_, HBW.out⟩
  simp [results, Try.results13, go_sem, y0, y1, y2, y3, y4]
  have hgb : w2.grownBy w8 (some (b + 1)) := ⟨HB8.out.os, HB8.out.tape, HB8.out.output, HB8.out.size, fun k hk hne => HO8.out k (fun e => hne (by rw [e]))⟩
  exact (H2.out.1.mv hgb (box_lt HM2.out)).mono HB1.out.size
end Go.Proofs.Ytgeoadkcmbageaa
namespace Go.Proofs.Ytgeoadkcmbageaa
open Go.ChangeShapes Go.WideShapes Go.ChangeAt Go.RowKit
set_option linter.unusedVariables false
set_option linter.unusedSimpArgs false
set_option maxRecDepth 100000 in
set_option maxHeartbeats 4000000 in
theorem same16 (E : Edn) (s u : Sl) (w : World) (h1 : OsRd w s E.os) (h2 : OsRd w u E.os) : Calls Try.prog 16 #[.agg #[.int .i64 E.sz, .int .i64 E.hi, .int .i64 E.ve, .bool E.dd, .slice s.a s.n s.c], .agg #[.int .i64 E.sz, .int .i64 E.hi, .int .i64 E.ve, .bool E.dd, .slice u.a u.n u.c]] w fun e w' => e = .returned (.bool true) ∧ Hid (Below w.heap.size w w') := by
  have H1 : Hid (OsRd w s E.os) := h1
  have H2 : Hid (OsRd w u E.os) := h2
  have hl1 := h1.len
  have hl2 := h2.len
  have hcap := h1.cap
  clear h1 h2
  obtain ⟨sz, hi, ve, dd, os⟩ := E
  obtain ⟨xa, N, xc⟩ := s
  obtain ⟨ya, M, yc⟩ := u
  simp only at *
  have hMN : M = N := by omega
  subst hMN
  obtain ⟨V, hV⟩ : ∃ V, V = (w.alloc (.cells #[.int .i64 sz, .int .i64 hi, .int .i64 ve, .bool dd, .slice xa M xc] 24)).alloc (.cells #[.int .i64 sz, .int .i64 hi, .int .i64 ve, .bool dd, .slice ya M yc] 24) := ⟨_, rfl⟩
  have HV : Hid (Below w.heap.size w V ∧ V.heap[w.heap.size]? = some (.cells #[.int .i64 sz, .int .i64 hi, .int .i64 ve, .bool dd, .slice xa M xc] 24) ∧ V.heap[w.heap.size + 1]? = some (.cells #[.int .i64 sz, .int .i64 hi, .int .i64 ve, .bool dd, .slice ya M yc] 24)) := by
    rw [hV]
    refine ⟨((Below.refl _ _).alloc (Nat.le_refl _) _).alloc (by simp) _, block_alloc (alloc_at _ _) _, ?_⟩
    have := alloc_at (w.alloc (.cells #[.int .i64 sz, .int .i64 hi, .int .i64 ve, .bool dd, .slice xa M xc] 24)) (.cells #[.int .i64 sz, .int .i64 hi, .int .i64 ve, .bool dd, .slice ya M yc] 24)
    simp only [World.size_alloc] at this
    exact this
  have hbd : (dd != dd) = false := by simp
  go_enter Try.func16, Try.ntmps16
  go_wp2_with fail
  rw [← hV]
  clear hV
  obtain ⟨b, hb⟩ : ∃ b, b = w.heap.size := ⟨_, rfl⟩
  have HBB : Hid (b = w.heap.size) := hb
  have HV0 : Hid (Below w.heap.size w V) := HV.out.1
  have HV1 : Hid (V.heap[b]? = some (.cells #[.int .i64 sz, .int .i64 hi, .int .i64 ve, .bool dd, .slice xa M xc] 24)) := (show _ = _ by rw [hb]; exact HV.out.2.1)
  have HV2 : Hid (V.heap[b + 1]? = some (.cells #[.int .i64 sz, .int .i64 hi, .int .i64 ve, .bool dd, .slice ya M yc] 24)) := (show _ = _ by rw [hb]; exact HV.out.2.2)
  rw [← hb]
  clear hb HV
  have p0 := box_cell HV1.out 0 _ rfl
  have q0 := box_cell HV2.out 0 _ rfl
  have p1 := box_cell HV1.out 1 _ rfl
  have q1 := box_cell HV2.out 1 _ rfl
  have p2 := box_cell HV1.out 2 _ rfl
  have q2 := box_cell HV2.out 2 _ rfl
  have p3 := box_cell HV1.out 3 _ rfl
  have q3 := box_cell HV2.out 3 _ rfl
  have p4 := box_cell HV1.out 4 _ rfl
  have q4 := box_cell HV2.out 4 _ rfl
  have lb := box_lt HV1.out
  have lb2 := box_lt HV2.out
  go_wp2_with fail
  clear p0 q0 p1 q1 p2 q2 p3 q3 p4 q4 lb lb2
  go_loopw [5] (fun x wr => ∃ k : Nat, k ≤ M ∧ x = .int .i64 k ∧ Hid (Below V.heap.size V wr)) (fun x _ => M - (intOf x).toNat)
  case atStart => exact ⟨0, Nat.zero_le _, rfl, Below.refl _ _⟩
  case round =>
    obtain ⟨k, hk, rfl, HB⟩ := hrel
    have KS1 : ∀ W, Below V.heap.size V W → W.cell? ⟨b, 4, none⟩ = some (.slice xa M xc) ∧ W.cell? ⟨b + 1, 4, none⟩ = some (.slice ya M yc) := fun W hb =>
      ⟨box_cell ((hb.block b (box_lt HV1.out)).trans HV1.out) 4 _ rfl, box_cell ((hb.block (b + 1) (box_lt HV2.out)).trans HV2.out) 4 _ rfl⟩
    have lb : b < wr.heap.size := Nat.lt_of_lt_of_le (box_lt HV1.out) HB.out.size
    have lb2 : b + 1 < wr.heap.size := Nat.lt_of_lt_of_le (box_lt HV2.out) HB.out.size
    by_cases hlt : k < M
    · have hlt' : (k : Int) < (M : Int) := by omega
      have hke : k < os.length := by omega
      obtain ⟨b1, o1, e1, e2, x, e3, e4, e5⟩ := (H1.out.below HV0.out).at k hke
      obtain ⟨b2, o2, f1, f2, y, f3, f4, f5⟩ := (H2.out.below HV0.out).at k hke
      have KSB : ∀ W, Below V.heap.size V W → Hid (Calls Try.prog 32 #[.slice x.a x.n x.c, .slice y.a x.n y.c] W fun e w' => e = .returned (.bool true) ∧ w' = W) := fun W hb => same_yes x.a y.a x.n x.c y.c os[k].d W (e5.rd.below hb) (f5.rd.below hb) e5.len
      have hxy : x.n = y.n := e5.len.symm.trans f5.len
      have KS2 : ∀ W, Below V.heap.size V W → W.cell? ⟨b1, o1 + k * 2, none⟩ = some (.int .u16 (os[k].cd : Int)) ∧ W.cell? ⟨b1, o1 + k * 2 + 1, none⟩ = some (.slice x.a x.n x.c) ∧ W.cell? ⟨b2, o2 + k * 2, none⟩ = some (.int .u16 (os[k].cd : Int)) ∧ W.cell? ⟨b2, o2 + k * 2 + 1, none⟩ = some (.slice y.a y.n y.c) := fun W hb =>
        ⟨(hb.cell (p := ⟨b1, o1 + k * 2, none⟩) e2).trans e3, (hb.cell (p := ⟨b1, o1 + k * 2 + 1, none⟩) e2).trans e4, (hb.cell (p := ⟨b2, o2 + k * 2, none⟩) f2).trans f3, (hb.cell (p := ⟨b2, o2 + k * 2 + 1, none⟩) f2).trans f4⟩
      have l1 : b1 < wr.heap.size := Nat.lt_of_lt_of_le e2 HB.out.size
      have l2 : b2 < wr.heap.size := Nat.lt_of_lt_of_le f2 HB.out.size
      clear e3 e4 e5 f3 f4 f5
      simp only at e1 f1
      subst e1
      subst f1
      obtain ⟨xda, xn, xdc⟩ := x
      obtain ⟨yda, yn, ydc⟩ := y
      simp only at *
      subst hxy
      generalize os[k].cd = cd at *
      have KS : ∀ W, Below V.heap.size V W → W.cell? ⟨b, 4, none⟩ = some (.slice (some ⟨b1, o1, none⟩) M xc) ∧ W.cell? ⟨b + 1, 4, none⟩ = some (.slice (some ⟨b2, o2, none⟩) M yc) ∧ W.cell? ⟨b1, o1 + k * 2, none⟩ = some (.int .u16 (cd : Int)) ∧ W.cell? ⟨b1, o1 + k * 2 + 1, none⟩ = some (.slice xda xn xdc) ∧ W.cell? ⟨b2, o2 + k * 2, none⟩ = some (.int .u16 (cd : Int)) ∧ W.cell? ⟨b2, o2 + k * 2 + 1, none⟩ = some (.slice yda xn ydc) := fun W hb => by
        obtain ⟨r1, r2⟩ := KS1 W hb
        obtain ⟨r3, r4, r5, r6⟩ := KS2 W hb
        exact ⟨r1, r2, r3, r4, r5, r6⟩
      obtain ⟨t1, t2, t3, t4, t5, t6⟩ := KS wr HB.out
      go_upto_region 6 with fail
      go_region_held3 (fun W => W.cell? ⟨b, 4, none⟩ = some (.slice (some ⟨b1, o1, none⟩) M xc) ∧ W.cell? ⟨b + 1, 4, none⟩ = some (.slice (some ⟨b2, o2, none⟩) M yc) ∧ W.cell? ⟨b1, o1 + k * 2, none⟩ = some (.int .u16 (cd : Int)) ∧ W.cell? ⟨b1, o1 + k * 2 + 1, none⟩ = some (.slice xda xn xdc) ∧ W.cell? ⟨b2, o2 + k * 2, none⟩ = some (.int .u16 (cd : Int)) ∧ W.cell? ⟨b2, o2 + k * 2 + 1, none⟩ = some (.slice yda xn ydc)) (first | exact KS _ HB.out | exact KS _ HB.out.drew) (first
        | (go_at_call 32; refine Calls.mono (KSB _ (by first | exact HB.out.drew | exact HB.out)).out ?_; rintro e w6 ⟨rfl, rfl⟩)
        | fail)
      go_wp2
      go_round
      case rel => exact ⟨k + 1, by omega, by go_num, by first | exact HB.out.drew | exact HB.out⟩
      case measure => simp [intOf]; omega
    · have hge : (M : Int) ≤ (k : Int) := by omega
      obtain ⟨r1, r2⟩ := KS1 wr HB.out
      go_wp2
      go_ret
      exact ⟨rfl, HV0.out.trans (HB.out.mono HV0.out.size)⟩
end Go.Proofs.Ytgeoadkcmbageaa
namespace Go.Proofs.Ytgeoadkcmbageaa
open Go.ChangeShapes Go.WideShapes Go.ChangeAt Go.RowKit
set_option linter.unusedVariables false
set_option linter.unusedSimpArgs false
theorem Say.fine {E : Edn} (h : Say E) (hc : ∀ o ∈ E.os, o.cd < 65536) (hb : ∀ o ∈ E.os, ∀ z ∈ o.d, 0 ≤ z ∧ z ≤ 255) : ∀ o ∈ E.os, OOk o := by
  intro o ho
  refine ⟨hc o ho, ?_, hb o ho⟩
  have h1 := h.2.2.2
  have : ∀ l : List Opt, ∀ o ∈ l, o.d.length + 4 ≤ (obs l).length := by
    intro l
    induction l with
    | nil => intro o ho; cases ho
    | cons p l ih =>
      intro o ho
      simp only [obs, List.length_append, ob_len]
      rcases List.mem_cons.1 ho with rfl | ho
      · omega
      · have := ih o ho
        omega
  have := this E.os o ho
  omega
theorem edE_rec {E : Edn} (h : Say E) : edE (recE E) E.os = E := by
  obtain ⟨h1, h2, h3, h4⟩ := ttl_back h
  obtain ⟨g1, _, _, _⟩ := h
  unfold edE recE
  simp only
  rw [h1, h2, h3, Int.toNat_of_nonneg g1.1]
theorem InF.rec {E : Edn} (h : Say E) {w : World} {x : RA} (hr : RRd w x (recE E)) : InF x (recE E) := by
  refine ⟨rfl, hr.1.len.symm, (ttl_back h).2.2.2, hr.2.h1.len.symm, hr.2.h2.len.symm, hr.2.h3.len.symm, ?_⟩
  rw [← hr.2.h4.len]
  exact h.2.2.2
theorem rec_edE {r : Rec} {x : RA} {w : World} {l : List Opt} (h : RRd w x r) (hf : InF x r) (hc : r.tt < 4294967296) (hg : gopt r.d.raw = some l) : recE (edE r l) = r ∧ (r.cl < 65536 → Say (edE r l)) := by
  obtain ⟨f1, f2, f3, f4, f5, f6, f7⟩ := hf
  have hs := gopt_sound h.2.h4.rd.2 hg
  have e0 : r.ow = [] := List.length_eq_zero_iff.1 (h.1.len.trans f2)
  have e1 : r.d.ns = [] := List.length_eq_zero_iff.1 (h.2.h1.len.trans f4)
  have e2 : r.d.us = [] := List.length_eq_zero_iff.1 (h.2.h2.len.trans f5)
  have e3 : r.d.ts = [] := List.length_eq_zero_iff.1 (h.2.h3.len.trans f6)
  have hl := h.2.h4.len
  obtain ⟨ow, t, cl, tt, ⟨ns, us, ts, raw⟩⟩ := r
  simp only at *
  subst e0; subst e1; subst e2; subst e3; subst f1
  refine ⟨?_, fun hcl => ⟨⟨?_, ?_⟩, ⟨?_, ?_⟩, ⟨?_, ?_⟩, ?_⟩⟩
  · unfold recE
    rw [show edE ⟨[], 41, cl, tt, ⟨[], [], [], raw⟩⟩ l = ⟨(cl : Int), ((tt / 16777216 : Nat) : Int), ((tt % 16777216 / 65536 : Nat) : Int), decide (tt / 32768 % 2 = 1), l⟩ from rfl, ttl_of tt hc f3]
    simp only [hs.1, Int.toNat_natCast]
  all_goals simp only [edE]
  · omega
  · omega
  · omega
  · omega
  · omega
  · omega
  · rw [hs.1, hl]; exact f7
set_option maxRecDepth 100000 in
set_option maxHeartbeats 2000000 in
theorem awake31 (w : World) : Calls Try.prog 31 #[] w fun e w' => e = .returned (.bool true) ∧ Hid (Below w.heap.size w w') := by
  have hsay : Say ⟨1232, 0, 0, true, []⟩ := by decide
  have K11 := Lib.hid (record11_yes ⟨1232, 0, 0, true, []⟩ nilS w (OsRd.none w) (fun o ho => (by cases ho)) hsay)
  have e0 : (recE ⟨1232, 0, 0, true, []⟩).t = 41 := rfl
  have e1 : (recE ⟨1232, 0, 0, true, []⟩).cl = 1232 := rfl
  have e2 : (recE ⟨1232, 0, 0, true, []⟩).tt = 32768 := by decide
  have e3 : (recE ⟨1232, 0, 0, true, []⟩).ow = [] := rfl
  have e4 : (recE ⟨1232, 0, 0, true, []⟩).d.raw = [] := rfl
  go_enter Try.func31, Try.ntmps31
  go_wp2_with fail
  refine K11.out.mono ?_
  rintro e w1 ⟨x, rfl, H1⟩
  have h1 : x.o.n = 0 := by rw [← H1.out.1.1.len, e3]; rfl
  have h2 : x.d.p4.n = 0 := by rw [← H1.out.1.2.h4.len, e4]; rfl
  have HB : Hid (Below w.heap.size w w1) := H1.out.2
  clear H1 K11 hsay e3 e4
  simp only [recCells, e0, e1, e2]
  clear e0 e1 e2
  obtain ⟨⟨oa, on, oc⟩, ⟨⟨a1, n1, c1⟩, ⟨a2, n2, c2⟩, ⟨a3, n3, c3⟩, ⟨a4, n4, c4⟩⟩⟩ := x
  simp only at h1 h2
  subst h1; subst h2
  have hn := newE_below w1 (.cells #[.slice oa 0 oc, .int .u16 41, .int .u16 1232, .int .u32 32768, .slice a1 n1 c1, .slice a2 n2 c2, .slice a3 n3 c3, .slice a4 0 c4] 37)
  have HB2 : Hid (Below w.heap.size w (w1.alloc (.cells #[.slice oa 0 oc, .int .u16 41, .int .u16 1232, .int .u32 32768, .slice a1 n1 c1, .slice a2 n2 c2, .slice a3 n3 c3, .slice a4 0 c4] 37))) := HB.out.trans (hn.mono HB.out.size)
  clear hn HB
  go_wp2
  go_ret
  exact ⟨rfl, HB2.out⟩
end Go.Proofs.Ytgeoadkcmbageaa
namespace Go.Proofs.Ytgeoadkcmbageaa
open Go.ChangeShapes Go.WideShapes Go.ChangeAt Go.RowKit
set_option linter.unusedVariables false
set_option linter.unusedSimpArgs false
theorem OsRd.bytes {w : World} {s : Sl} {os : List Opt} (h : OsRd w s os) : ∀ o ∈ os, ∀ z ∈ o.d, 0 ≤ z ∧ z ≤ 255 := by
  intro o ho
  obtain ⟨i, hi, rfl⟩ := List.getElem_of_mem ho
  obtain ⟨_, _, _, _, x, _, _, h5⟩ := h.at i hi
  exact h5.rd.2
theorem RRd_below {w w' : World} {x : RA} {r : Rec} (h : RRd w x r) (hb : Below w.heap.size w w') : RRd w' x r := ⟨h.1.below hb, h.2.below hb⟩
set_option maxRecDepth 100000 in
set_option maxHeartbeats 8000000 in
theorem backL (E : Edn) (s : Sl) (x : RA) (r : Rec) (w : World) (hE : OsRd w s E.os) (hr : RRd w x r) (hcl : r.cl < 65536) (htt : r.tt < 4294967296) : Calls Try.prog 5 #[.agg #[.int .i64 E.sz, .int .i64 E.hi, .int .i64 E.ve, .bool E.dd, .slice s.a s.n s.c], .agg (recCells x r).toArray] w fun e w' => e = .returned (.bool true) ∧ Hid (Below w.heap.size w w') := by
  obtain ⟨EE, hEE⟩ : ∃ EE, EE = E := ⟨_, rfl⟩
  obtain ⟨R, hR⟩ : ∃ R, R = r := ⟨_, rfl⟩
  obtain ⟨XA, hX⟩ : ∃ XA, XA = x := ⟨_, rfl⟩
  obtain ⟨SA, hS⟩ : ∃ SA, SA = s := ⟨_, rfl⟩
  have HE : Hid (OsRd w SA EE.os) := (show OsRd w SA EE.os by rw [hS, hEE]; exact hE)
  have HRR : Hid (RRd w XA R) := (show RRd w XA R by rw [hX, hR]; exact hr)
  have HTT : Hid (R.cl < 65536 ∧ R.tt < 4294967296) := ⟨by rw [hR]; exact hcl, by rw [hR]; exact htt⟩
  clear hE hr hcl htt
  obtain ⟨⟨oa, on, oc⟩, ⟨⟨a1, n1, c1⟩, ⟨a2, n2, c2⟩, ⟨a3, n3, c3⟩, ⟨a4, n4, c4⟩⟩⟩ := x
  obtain ⟨ow, t, cl, tt, d⟩ := r
  obtain ⟨sz, hi, ve, dd, os⟩ := E
  obtain ⟨sa, sn, sc⟩ := s
  have HRC : Hid ((recCells XA R).toArray = #[.slice oa on oc, .int .u16 (t : Int), .int .u16 (cl : Int), .int .u32 (tt : Int), .slice a1 n1 c1, .slice a2 n2 c2, .slice a3 n3 c3, .slice a4 n4 c4]) := (show _ = _ by rw [hX, hR]; rfl)
  have HRC2 : Hid (∀ z : RA, (recCells z R).toArray = #[.slice z.o.a z.o.n z.o.c, .int .u16 (t : Int), .int .u16 (cl : Int), .int .u32 (tt : Int), .slice z.d.p1.a z.d.p1.n z.d.p1.c, .slice z.d.p2.a z.d.p2.n z.d.p2.c, .slice z.d.p3.a z.d.p3.n z.d.p3.c, .slice z.d.p4.a z.d.p4.n z.d.p4.c]) := fun z => by rw [hR]; rfl
  have HEQ : Hid (EE = ⟨sz, hi, ve, dd, os⟩ ∧ SA = ⟨sa, sn, sc⟩) := ⟨hEE, hS⟩
  clear hEE hR hX hS
  have hN4 : Hid (XA.d.p4.n = XA.d.p4.n) := (show _ = _ from rfl)
  simp only
  show Calls Try.prog 5 #[.agg #[.int .i64 sz, .int .i64 hi, .int .i64 ve, .bool dd, .slice sa sn sc], .agg #[.slice oa on oc, .int .u16 (t : Int), .int .u16 (cl : Int), .int .u32 (tt : Int), .slice a1 n1 c1, .slice a2 n2 c2, .slice a3 n3 c3, .slice a4 n4 c4]] w _
  obtain ⟨V, hV⟩ : ∃ V, V = (w.alloc (.cells #[.int .i64 sz, .int .i64 hi, .int .i64 ve, .bool dd, .slice sa sn sc] 24)).alloc (.cells #[.slice oa on oc, .int .u16 (t : Int), .int .u16 (cl : Int), .int .u32 (tt : Int), .slice a1 n1 c1, .slice a2 n2 c2, .slice a3 n3 c3, .slice a4 n4 c4] 37) := ⟨_, rfl⟩
  have HV : Hid (Below w.heap.size w V ∧ V.heap[w.heap.size]? = some (.cells #[.int .i64 sz, .int .i64 hi, .int .i64 ve, .bool dd, .slice sa sn sc] 24) ∧ V.heap[w.heap.size + 1]? = some (.cells #[.slice oa on oc, .int .u16 (t : Int), .int .u16 (cl : Int), .int .u32 (tt : Int), .slice a1 n1 c1, .slice a2 n2 c2, .slice a3 n3 c3, .slice a4 n4 c4] 37)) := by
    rw [hV]
    refine ⟨((Below.refl _ _).alloc (Nat.le_refl _) _).alloc (by simp) _, block_alloc (alloc_at _ _) _, ?_⟩
    have := alloc_at (w.alloc (.cells #[.int .i64 sz, .int .i64 hi, .int .i64 ve, .bool dd, .slice sa sn sc] 24)) (.cells #[.slice oa on oc, .int .u16 (t : Int), .int .u16 (cl : Int), .int .u32 (tt : Int), .slice a1 n1 c1, .slice a2 n2 c2, .slice a3 n3 c3, .slice a4 n4 c4] 37)
    simp only [World.size_alloc] at this
    exact this
  go_enter Try.func5, Try.ntmps5
  go_wp2_with fail
  rw [← hV]
  clear hV
  obtain ⟨b, hb⟩ : ∃ b, b = w.heap.size := ⟨_, rfl⟩
  have HV0 : Hid (Below w.heap.size w V) := HV.out.1
  have HV1 : Hid (V.heap[b]? = some (.cells #[.int .i64 sz, .int .i64 hi, .int .i64 ve, .bool dd, .slice sa sn sc] 24)) := (show _ = _ by rw [hb]; exact HV.out.2.1)
  have HV2 : Hid (V.heap[b + 1]? = some (.cells #[.slice oa on oc, .int .u16 (t : Int), .int .u16 (cl : Int), .int .u32 (tt : Int), .slice a1 n1 c1, .slice a2 n2 c2, .slice a3 n3 c3, .slice a4 n4 c4] 37)) := (show _ = _ by rw [hb]; exact HV.out.2.2)
  rw [← hb]
  clear hb HV
  have KE : ∀ W, Below V.heap.size V W → W.cell? ⟨b, 0, none⟩ = some (.int .i64 sz) ∧ W.cell? ⟨b, 1, none⟩ = some (.int .i64 hi) ∧ W.cell? ⟨b, 2, none⟩ = some (.int .i64 ve) ∧ W.cell? ⟨b, 3, none⟩ = some (.bool dd) ∧ W.cell? ⟨b, 4, none⟩ = some (.slice sa sn sc) := fun W hb => by
    have m := (hb.block b (box_lt HV1.out)).trans HV1.out
    exact ⟨box_cell m 0 _ rfl, box_cell m 1 _ rfl, box_cell m 2 _ rfl, box_cell m 3 _ rfl, box_cell m 4 _ rfl⟩
  have KR : ∀ W, Below V.heap.size V W → W.cell? ⟨b + 1, 0, none⟩ = some (.slice oa on oc) ∧ W.cell? ⟨b + 1, 1, none⟩ = some (.int .u16 (t : Int)) ∧ W.cell? ⟨b + 1, 2, none⟩ = some (.int .u16 (cl : Int)) ∧ W.cell? ⟨b + 1, 3, none⟩ = some (.int .u32 (tt : Int)) ∧ W.cell? ⟨b + 1, 4, none⟩ = some (.slice a1 n1 c1) ∧ W.cell? ⟨b + 1, 5, none⟩ = some (.slice a2 n2 c2) ∧ W.cell? ⟨b + 1, 6, none⟩ = some (.slice a3 n3 c3) ∧ W.cell? ⟨b + 1, 7, none⟩ = some (.slice a4 n4 c4) := fun W hb => by
    have m := (hb.block (b + 1) (box_lt HV2.out)).trans HV2.out
    exact ⟨box_cell m 0 _ rfl, box_cell m 1 _ rfl, box_cell m 2 _ rfl, box_cell m 3 _ rfl, box_cell m 4 _ rfl, box_cell m 5 _ rfl, box_cell m 6 _ rfl, box_cell m 7 _ rfl⟩
  have K31 := Lib.hid (awake31 V)
  go_wp2_with fail
  refine K31.out.mono ?_
  rintro e w1 ⟨rfl, H1⟩
  obtain ⟨e0, e1, e2, e3, e4⟩ := KE w1 H1.out
  obtain ⟨_, _, _, _, _, _, _, r7⟩ := KR w1 H1.out
  have lb : b < w1.heap.size := Nat.lt_of_lt_of_le (box_lt HV1.out) H1.out.size
  have lb2 : b + 1 < w1.heap.size := Nat.lt_of_lt_of_le (box_lt HV2.out) H1.out.size
  have K8 := Lib.hid (large8 EE SA w1 ((HE.out.below HV0.out).below H1.out))
  rw [HEQ.out.1, HEQ.out.2] at K8
  go_wp2_with fail
  refine K8.out.mono ?_
  rintro e w2 ⟨bl, rfl, H2⟩
  have HB2 : Hid (Below V.heap.size V w2) := H1.out.trans (H2.out.2.mono H1.out.size)
  clear e0 e1 e2 e3 e4 r7 lb lb2 K8 K31
  obtain ⟨e0, e1, e2, e3, e4⟩ := KE w2 HB2.out
  obtain ⟨_, _, _, _, _, _, _, r7⟩ := KR w2 HB2.out
  have lb : b < w2.heap.size := Nat.lt_of_lt_of_le (box_lt HV1.out) HB2.out.size
  have lb2 : b + 1 < w2.heap.size := Nat.lt_of_lt_of_le (box_lt HV2.out) HB2.out.size
  cases bl with
  | true =>
    go_wp2
    go_ret
    exact ⟨rfl, HV0.out.trans (HB2.out.mono HV0.out.size)⟩
  | false =>
    have HFW : Hid (Few EE.os) := (show Few EE.os by rw [HEQ.out.1]; exact H2.out.1 rfl)
    by_cases h7 : (70000 : Int) < (n4 : Int)
    · go_wp2
      go_ret
      exact ⟨rfl, HV0.out.trans (HB2.out.mono HV0.out.size)⟩
    · have HE2 : Hid (OsRd w2 SA EE.os) := (HE.out.below HV0.out).below HB2.out
      by_cases hs : Say EE
      · have K11 := Lib.hid (record11_yes EE SA w2 HE2.out HFW.out.2 hs)
        have HSAY := Lib.hid hs
        obtain ⟨RE, hRE⟩ : ∃ RE, RE = recE EE := ⟨_, rfl⟩
        have HRE0 : Hid (RE = recE EE) := hRE
        rw [← hRE] at K11
        clear hRE
        rw [HEQ.out.1, HEQ.out.2] at K11
        clear hs
        go_wp2_with fail
        refine K11.out.mono ?_
        rintro e w3 ⟨q, rfl, H3⟩
        have HB3 : Hid (Below V.heap.size V w3) := HB2.out.trans (H3.out.2.mono HB2.out.size)
        clear e0 e1 e2 e3 e4 r7 lb lb2 K11 h7
        simp only [recCells]
        have hn := newE_below w3 (.cells #[.slice q.o.a q.o.n q.o.c, .int .u16 RE.t, .int .u16 RE.cl, .int .u32 RE.tt, .slice q.d.p1.a q.d.p1.n q.d.p1.c, .slice q.d.p2.a q.d.p2.n q.d.p2.c, .slice q.d.p3.a q.d.p3.n q.d.p3.c, .slice q.d.p4.a q.d.p4.n q.d.p4.c] 37)
        have hnx : (w3.alloc (.cells #[.slice q.o.a q.o.n q.o.c, .int .u16 RE.t, .int .u16 RE.cl, .int .u32 RE.tt, .slice q.d.p1.a q.d.p1.n q.d.p1.c, .slice q.d.p2.a q.d.p2.n q.d.p2.c, .slice q.d.p3.a q.d.p3.n q.d.p3.c, .slice q.d.p4.a q.d.p4.n q.d.p4.c] 37)).heap[w3.heap.size]? = some (.cells #[.slice q.o.a q.o.n q.o.c, .int .u16 RE.t, .int .u16 RE.cl, .int .u32 RE.tt, .slice q.d.p1.a q.d.p1.n q.d.p1.c, .slice q.d.p2.a q.d.p2.n q.d.p2.c, .slice q.d.p3.a q.d.p3.n q.d.p3.c, .slice q.d.p4.a q.d.p4.n q.d.p4.c] 37) := heap_alloc_new _ _
        have HB4 : Hid (Below V.heap.size V (w3.alloc (.cells #[.slice q.o.a q.o.n q.o.c, .int .u16 RE.t, .int .u16 RE.cl, .int .u32 RE.tt, .slice q.d.p1.a q.d.p1.n q.d.p1.c, .slice q.d.p2.a q.d.p2.n q.d.p2.c, .slice q.d.p3.a q.d.p3.n q.d.p3.c, .slice q.d.p4.a q.d.p4.n q.d.p4.c] 37))) := HB3.out.trans (hn.mono HB3.out.size)
        have HQ4 : Hid (RRd (w3.alloc (.cells #[.slice q.o.a q.o.n q.o.c, .int .u16 RE.t, .int .u16 RE.cl, .int .u32 RE.tt, .slice q.d.p1.a q.d.p1.n q.d.p1.c, .slice q.d.p2.a q.d.p2.n q.d.p2.c, .slice q.d.p3.a q.d.p3.n q.d.p3.c, .slice q.d.p4.a q.d.p4.n q.d.p4.c] 37)) q RE) := RRd_below H3.out.1 hn
        have j0 := box_cell hnx 0 _ rfl
        have j1 := box_cell hnx 1 _ rfl
        have j2 := box_cell hnx 2 _ rfl
        have j3 := box_cell hnx 3 _ rfl
        have j4 := box_cell hnx 4 _ rfl
        have j5 := box_cell hnx 5 _ rfl
        have j6 := box_cell hnx 6 _ rfl
        have j7 := box_cell hnx 7 _ rfl
        have jl := box_lt hnx
        clear hn hnx
        go_upto_region 6 with fail
        generalize w3.alloc (.cells #[.slice q.o.a q.o.n q.o.c, .int .u16 RE.t, .int .u16 RE.cl, .int .u32 RE.tt, .slice q.d.p1.a q.d.p1.n q.d.p1.c, .slice q.d.p2.a q.d.p2.n q.d.p2.c, .slice q.d.p3.a q.d.p3.n q.d.p3.c, .slice q.d.p4.a q.d.p4.n q.d.p4.c] 37) = w4 at *
        obtain ⟨d1, hd1⟩ : ∃ d1, d1 = w3.heap.size := ⟨_, rfl⟩
        simp only [← hd1] at j0 j1 j2 j3 j4 j5 j6 j7 jl ⊢
        clear hd1
        have KK := Lib.hid (by
          have h1 := HQ4.out
          rw [HRE0.out] at h1
          exact read13_yes q (recE EE) w4 EE.os (ttl_lt HSAY.out) (by have := HSAY.out.1; simp only [recE]; omega) (InF.rec HSAY.out h1) h1.2.h4 (gopt_back (HSAY.out.fine HE.out.cds HE.out.bytes)))
        rw [edE_rec HSAY.out, ← HRE0.out] at KK
        simp only [recCells] at KK
        rw [HEQ.out.1] at KK
        go_wp2_with fail
        refine KK.out.mono ?_
        rintro e w5 ⟨y, rfl, H5⟩
        have HB5 : Hid (Below V.heap.size V w5) := HB4.out.trans (H5.out.2.mono HB4.out.size)
        clear KK j0 j1 j2 j3 j4 j5 j6 j7 jl
        simp only
        have hn := newE_below w5 (.cells #[.int .i64 sz, .int .i64 hi, .int .i64 ve, .bool dd, .slice y.a y.n y.c] 24)
        have hnx : (w5.alloc (.cells #[.int .i64 sz, .int .i64 hi, .int .i64 ve, .bool dd, .slice y.a y.n y.c] 24)).heap[w5.heap.size]? = some (.cells #[.int .i64 sz, .int .i64 hi, .int .i64 ve, .bool dd, .slice y.a y.n y.c] 24) := heap_alloc_new _ _
        have HB6 : Hid (Below V.heap.size V (w5.alloc (.cells #[.int .i64 sz, .int .i64 hi, .int .i64 ve, .bool dd, .slice y.a y.n y.c] 24))) := HB5.out.trans (hn.mono HB5.out.size)
        have HY : Hid (OsRd (w5.alloc (.cells #[.int .i64 sz, .int .i64 hi, .int .i64 ve, .bool dd, .slice y.a y.n y.c] 24)) y os) := by
          obtain ⟨y', h1, h2⟩ := H5.out.1.rd
          obtain ⟨ya, yn, yc⟩ := y
          obtain ⟨ya', yn', yc'⟩ := y'
          simp only [Value.slice.injEq] at h1
          obtain ⟨rfl, rfl, rfl⟩ := h1
          exact h2.below hn
        have HX6 : Hid (OsRd (w5.alloc (.cells #[.int .i64 sz, .int .i64 hi, .int .i64 ve, .bool dd, .slice y.a y.n y.c] 24)) ⟨sa, sn, sc⟩ os) := by
          have := (HE.out.below HV0.out).below HB6.out
          rw [HEQ.out.1, HEQ.out.2] at this
          exact this
        have K16 := Lib.hid (same16 ⟨sz, hi, ve, dd, os⟩ y ⟨sa, sn, sc⟩ _ HY.out HX6.out)
        have j0 := box_cell hnx 0 _ rfl
        have j1 := box_cell hnx 1 _ rfl
        have j2 := box_cell hnx 2 _ rfl
        have j3 := box_cell hnx 3 _ rfl
        have j4 := box_cell hnx 4 _ rfl
        have jl := box_lt hnx
        clear hn hnx
        go_upto_region 7 with fail
        generalize w5.alloc (.cells #[.int .i64 sz, .int .i64 hi, .int .i64 ve, .bool dd, .slice y.a y.n y.c] 24) = w6 at *
        obtain ⟨d2, hd2⟩ : ∃ d2, d2 = w5.heap.size := ⟨_, rfl⟩
        simp only [← hd2] at j0 j1 j2 j3 j4 jl ⊢
        clear hd2
        obtain ⟨e0, e1, e2, e3, e4⟩ := KE w6 HB6.out
        have lb : b < w6.heap.size := Nat.lt_of_lt_of_le (box_lt HV1.out) HB6.out.size
        go_wp2_with fail
        refine K16.out.mono ?_
        rintro e w7 ⟨rfl, H7⟩
        have HB7 : Hid (Below V.heap.size V w7) := HB6.out.trans (H7.out.mono HB6.out.size)
        clear K16 j0 j1 j2 j3 j4 jl e0 e1 e2 e3 e4 lb
        obtain ⟨r0, r1, r2, r3, r4, r5, r6, r7⟩ := KR w7 HB7.out
        have lr : b + 1 < w7.heap.size := Nat.lt_of_lt_of_le (box_lt HV2.out) (Below.size HB7.out)
        have HBW : Hid (Below V.heap.size V w7) := HB7.out
        by_cases hF : InF XA R
        · by_cases hG : ∃ l, gopt R.d.raw = some l
          · obtain ⟨l, hG⟩ := hG
            have HRE := Lib.hid (rec_edE HRR.out hF HTT.out.2 hG)
            have HSD := Lib.hid (gopt_sound HRR.out.2.h4.rd.2 hG)
            have K13 := Lib.hid (read13_yes XA R w7 l HTT.out.2 HTT.out.1 hF ((HRR.out.2.h4.below HV0.out).below HBW.out) hG)
            rw [HRC.out] at K13
            clear hF hG
            obtain ⟨Q, hQ⟩ : ∃ Q, Q = edE R l := ⟨_, rfl⟩
            have HQ : Hid (Q = edE R l ∧ Q.os = l) := ⟨hQ, by rw [hQ]; rfl⟩
            rw [← hQ] at K13 HRE
            clear hQ
            go_wp2_with fail
            refine K13.out.mono ?_
            rintro e u1 ⟨y, rfl, U1⟩
            have HU1 : Hid (Below V.heap.size V u1) := HBW.out.trans (U1.out.2.mono HBW.out.size)
            clear r0 r1 r2 r3 r4 r5 r6 r7 lr K13
            have hn := newE_below u1 (.cells #[.int .i64 Q.sz, .int .i64 Q.hi, .int .i64 Q.ve, .bool Q.dd, .slice y.a y.n y.c] 24)
            have hnx : (u1.alloc (.cells #[.int .i64 Q.sz, .int .i64 Q.hi, .int .i64 Q.ve, .bool Q.dd, .slice y.a y.n y.c] 24)).heap[u1.heap.size]? = some (.cells #[.int .i64 Q.sz, .int .i64 Q.hi, .int .i64 Q.ve, .bool Q.dd, .slice y.a y.n y.c] 24) := heap_alloc_new _ _
            have HU2 : Hid (Below V.heap.size V (u1.alloc (.cells #[.int .i64 Q.sz, .int .i64 Q.hi, .int .i64 Q.ve, .bool Q.dd, .slice y.a y.n y.c] 24))) := HU1.out.trans (hn.mono HU1.out.size)
            have HY : Hid (OsRd (u1.alloc (.cells #[.int .i64 Q.sz, .int .i64 Q.hi, .int .i64 Q.ve, .bool Q.dd, .slice y.a y.n y.c] 24)) y l) := by
              obtain ⟨y', h1, h2⟩ := U1.out.1.rd
              obtain ⟨ya, yn, yc⟩ := y
              obtain ⟨ya', yn', yc'⟩ := y'
              simp only [Value.slice.injEq] at h1
              obtain ⟨rfl, rfl, rfl⟩ := h1
              exact h2.below hn
            have j0 := box_cell hnx 0 _ rfl
            have j1 := box_cell hnx 1 _ rfl
            have j2 := box_cell hnx 2 _ rfl
            have j3 := box_cell hnx 3 _ rfl
            have j4 := box_cell hnx 4 _ rfl
            have jl := box_lt hnx
            clear hn hnx
            go_upto_region 12 with fail
            generalize u1.alloc (.cells #[.int .i64 Q.sz, .int .i64 Q.hi, .int .i64 Q.ve, .bool Q.dd, .slice y.a y.n y.c] 24) = u2 at *
            obtain ⟨c1, hc1⟩ : ∃ c1, c1 = u1.heap.size := ⟨_, rfl⟩
            simp only [← hc1] at j0 j1 j2 j3 j4 jl ⊢
            clear hc1
            have K11 := Lib.hid (record11_yes Q y u2 (by rw [HQ.out.2]; exact HY.out) (by rw [HQ.out.2]; exact fun o ho => by have := (HSD.out.2 o ho).2.1; omega) (HRE.out.2 HTT.out.1))
            rw [HRE.out.1] at K11
            go_wp2_with fail
            refine K11.out.mono ?_
            rintro e u3 ⟨z, rfl, U3⟩
            have HU3 : Hid (Below V.heap.size V u3) := HU2.out.trans (U3.out.2.mono HU2.out.size)
            clear K11 j0 j1 j2 j3 j4 jl
            have HZ : Hid (RRd u3 z R) := U3.out.1
            have hz := HRC2.out z
            rw [hz]
            clear hz
            have hn := newE_below u3 (.cells #[.slice z.o.a z.o.n z.o.c, .int .u16 (t : Int), .int .u16 (cl : Int), .int .u32 (tt : Int), .slice z.d.p1.a z.d.p1.n z.d.p1.c, .slice z.d.p2.a z.d.p2.n z.d.p2.c, .slice z.d.p3.a z.d.p3.n z.d.p3.c, .slice z.d.p4.a z.d.p4.n z.d.p4.c] 37)
            have hnx : (u3.alloc (.cells #[.slice z.o.a z.o.n z.o.c, .int .u16 (t : Int), .int .u16 (cl : Int), .int .u32 (tt : Int), .slice z.d.p1.a z.d.p1.n z.d.p1.c, .slice z.d.p2.a z.d.p2.n z.d.p2.c, .slice z.d.p3.a z.d.p3.n z.d.p3.c, .slice z.d.p4.a z.d.p4.n z.d.p4.c] 37)).heap[u3.heap.size]? = some (.cells #[.slice z.o.a z.o.n z.o.c, .int .u16 (t : Int), .int .u16 (cl : Int), .int .u32 (tt : Int), .slice z.d.p1.a z.d.p1.n z.d.p1.c, .slice z.d.p2.a z.d.p2.n z.d.p2.c, .slice z.d.p3.a z.d.p3.n z.d.p3.c, .slice z.d.p4.a z.d.p4.n z.d.p4.c] 37) := heap_alloc_new _ _
            have HU4 : Hid (Below V.heap.size V (u3.alloc (.cells #[.slice z.o.a z.o.n z.o.c, .int .u16 (t : Int), .int .u16 (cl : Int), .int .u32 (tt : Int), .slice z.d.p1.a z.d.p1.n z.d.p1.c, .slice z.d.p2.a z.d.p2.n z.d.p2.c, .slice z.d.p3.a z.d.p3.n z.d.p3.c, .slice z.d.p4.a z.d.p4.n z.d.p4.c] 37))) := HU3.out.trans (hn.mono HU3.out.size)
            have K15 := Lib.hid (samer45 z XA R _ (RRd_below HZ.out hn) (RRd_below (RRd_below HRR.out HV0.out) HU4.out))
            rw [HRC2.out z, HRC.out] at K15
            have j0 := box_cell hnx 0 _ rfl
            have j1 := box_cell hnx 1 _ rfl
            have j2 := box_cell hnx 2 _ rfl
            have j3 := box_cell hnx 3 _ rfl
            have j4 := box_cell hnx 4 _ rfl
            have j5 := box_cell hnx 5 _ rfl
            have j6 := box_cell hnx 6 _ rfl
            have j7 := box_cell hnx 7 _ rfl
            have jl := box_lt hnx
            clear hn hnx
            go_upto_region 13 with fail
            generalize u3.alloc (.cells #[.slice z.o.a z.o.n z.o.c, .int .u16 (t : Int), .int .u16 (cl : Int), .int .u32 (tt : Int), .slice z.d.p1.a z.d.p1.n z.d.p1.c, .slice z.d.p2.a z.d.p2.n z.d.p2.c, .slice z.d.p3.a z.d.p3.n z.d.p3.c, .slice z.d.p4.a z.d.p4.n z.d.p4.c] 37) = u4 at *
            obtain ⟨c2, hc2⟩ : ∃ c2, c2 = u3.heap.size := ⟨_, rfl⟩
            simp only [← hc2] at j0 j1 j2 j3 j4 j5 j6 j7 jl ⊢
            clear hc2
            obtain ⟨r0, r1, r2, r3, r4, r5, r6, r7⟩ := KR u4 HU4.out
            have lr : b + 1 < u4.heap.size := Nat.lt_of_lt_of_le (box_lt HV2.out) (Below.size HU4.out)
            go_wp2_with fail
            refine K15.out.mono ?_
            rintro e u5 ⟨rfl, U5⟩
            have HU5 : Hid (Below V.heap.size V u5) := HU4.out.trans (U5.mono HU4.out.size)
            clear U5 K15
            go_wp2
            go_ret
            exact ⟨rfl, HV0.out.trans (HU5.out.mono HV0.out.size)⟩
          · have hN : gopt R.d.raw = none := by
              cases h : gopt R.d.raw with
              | none => rfl
              | some l => exact absurd ⟨l, h⟩ hG
            have K13 := Lib.hid (read13_no XA R w7 HTT.out.2 hF ((HRR.out.2.h4.below HV0.out).below HBW.out) hN)
            rw [HRC.out] at K13
            clear hF hG hN
            go_wp2_with fail
            refine K13.out.mono ?_
            rintro e u1 ⟨rfl, U1⟩
            have HU1 : Hid (Below V.heap.size V u1) := HBW.out.trans (U1.out.mono HBW.out.size)
            have HU2 : Hid (Below V.heap.size V (u1.alloc (.cells #[.int .i64 0, .int .i64 0, .int .i64 0, .bool false, .slice none 0 0] 24))) := HU1.out.trans ((newE_below _ _).mono HU1.out.size)
            clear r0 r1 r2 r3 r4 r5 r6 r7 lr K13
            go_wp2
            go_ret
            exact ⟨rfl, HV0.out.trans (HU2.out.mono HV0.out.size)⟩
        · have K13 := Lib.hid (read13_form XA R w7 HTT.out.2 hF)
          rw [HRC.out] at K13
          clear hF
          go_wp2_with fail
          refine K13.out.mono ?_
          rintro e u1 ⟨rfl, U1⟩
          have HU1 : Hid (Below V.heap.size V u1) := HBW.out.trans (U1.out.mono HBW.out.size)
          have HU2 : Hid (Below V.heap.size V (u1.alloc (.cells #[.int .i64 0, .int .i64 0, .int .i64 0, .bool false, .slice none 0 0] 24))) := HU1.out.trans ((newE_below _ _).mono HU1.out.size)
          clear r0 r1 r2 r3 r4 r5 r6 r7 lr K13
          go_wp2
          go_ret
          exact ⟨rfl, HV0.out.trans (HU2.out.mono HV0.out.size)⟩
      · have K11 := Lib.hid (record11_no EE SA w2 HE2.out HFW.out.2 hs)
        rw [HEQ.out.1, HEQ.out.2] at K11
        clear hs
        go_wp2_with fail
        refine K11.out.mono ?_
        rintro e w3 ⟨rfl, H3⟩
        have HB3 : Hid (Below V.heap.size V w3) := HB2.out.trans (H3.out.mono HB2.out.size)
        clear e0 e1 e2 e3 e4 r7 lb lb2 K11 h7
        have HB4 : Hid (Below V.heap.size V (w3.alloc (.cells #[.slice none 0 0, .int .u16 0, .int .u16 0, .int .u32 0, .slice none 0 0, .slice none 0 0, .slice none 0 0, .slice none 0 0] 37))) := HB3.out.trans ((newE_below _ _).mono HB3.out.size)
        go_upto_region 9 with fail
        generalize w3.alloc (.cells #[.slice none 0 0, .int .u16 0, .int .u16 0, .int .u32 0, .slice none 0 0, .slice none 0 0, .slice none 0 0, .slice none 0 0] 37) = w4 at *
        obtain ⟨r0, r1, r2, r3, r4, r5, r6, r7⟩ := KR w4 HB4.out
        have lr : b + 1 < w4.heap.size := Nat.lt_of_lt_of_le (box_lt HV2.out) (Below.size HB4.out)
        have HBW : Hid (Below V.heap.size V w4) := HB4.out
        by_cases hF : InF XA R
        · by_cases hG : ∃ l, gopt R.d.raw = some l
          · obtain ⟨l, hG⟩ := hG
            have HRE := Lib.hid (rec_edE HRR.out hF HTT.out.2 hG)
            have HSD := Lib.hid (gopt_sound HRR.out.2.h4.rd.2 hG)
            have K13 := Lib.hid (read13_yes XA R w4 l HTT.out.2 HTT.out.1 hF ((HRR.out.2.h4.below HV0.out).below HBW.out) hG)
            rw [HRC.out] at K13
            clear hF hG
            obtain ⟨Q, hQ⟩ : ∃ Q, Q = edE R l := ⟨_, rfl⟩
            have HQ : Hid (Q = edE R l ∧ Q.os = l) := ⟨hQ, by rw [hQ]; rfl⟩
            rw [← hQ] at K13 HRE
            clear hQ
            go_wp2_with fail
            refine K13.out.mono ?_
            rintro e u1 ⟨y, rfl, U1⟩
            have HU1 : Hid (Below V.heap.size V u1) := HBW.out.trans (U1.out.2.mono HBW.out.size)
            clear r0 r1 r2 r3 r4 r5 r6 r7 lr K13
            have hn := newE_below u1 (.cells #[.int .i64 Q.sz, .int .i64 Q.hi, .int .i64 Q.ve, .bool Q.dd, .slice y.a y.n y.c] 24)
            have hnx : (u1.alloc (.cells #[.int .i64 Q.sz, .int .i64 Q.hi, .int .i64 Q.ve, .bool Q.dd, .slice y.a y.n y.c] 24)).heap[u1.heap.size]? = some (.cells #[.int .i64 Q.sz, .int .i64 Q.hi, .int .i64 Q.ve, .bool Q.dd, .slice y.a y.n y.c] 24) := heap_alloc_new _ _
            have HU2 : Hid (Below V.heap.size V (u1.alloc (.cells #[.int .i64 Q.sz, .int .i64 Q.hi, .int .i64 Q.ve, .bool Q.dd, .slice y.a y.n y.c] 24))) := HU1.out.trans (hn.mono HU1.out.size)
            have HY : Hid (OsRd (u1.alloc (.cells #[.int .i64 Q.sz, .int .i64 Q.hi, .int .i64 Q.ve, .bool Q.dd, .slice y.a y.n y.c] 24)) y l) := by
              obtain ⟨y', h1, h2⟩ := U1.out.1.rd
              obtain ⟨ya, yn, yc⟩ := y
              obtain ⟨ya', yn', yc'⟩ := y'
              simp only [Value.slice.injEq] at h1
              obtain ⟨rfl, rfl, rfl⟩ := h1
              exact h2.below hn
            have j0 := box_cell hnx 0 _ rfl
            have j1 := box_cell hnx 1 _ rfl
            have j2 := box_cell hnx 2 _ rfl
            have j3 := box_cell hnx 3 _ rfl
            have j4 := box_cell hnx 4 _ rfl
            have jl := box_lt hnx
            clear hn hnx
            go_upto_region 12 with fail
            generalize u1.alloc (.cells #[.int .i64 Q.sz, .int .i64 Q.hi, .int .i64 Q.ve, .bool Q.dd, .slice y.a y.n y.c] 24) = u2 at *
            obtain ⟨c1, hc1⟩ : ∃ c1, c1 = u1.heap.size := ⟨_, rfl⟩
            simp only [← hc1] at j0 j1 j2 j3 j4 jl ⊢
            clear hc1
            have K11 := Lib.hid (record11_yes Q y u2 (by rw [HQ.out.2]; exact HY.out) (by rw [HQ.out.2]; exact fun o ho => by have := (HSD.out.2 o ho).2.1; omega) (HRE.out.2 HTT.out.1))
            rw [HRE.out.1] at K11
            go_wp2_with fail
            refine K11.out.mono ?_
            rintro e u3 ⟨z, rfl, U3⟩
            have HU3 : Hid (Below V.heap.size V u3) := HU2.out.trans (U3.out.2.mono HU2.out.size)
            clear K11 j0 j1 j2 j3 j4 jl
            have HZ : Hid (RRd u3 z R) := U3.out.1
            have hz := HRC2.out z
            rw [hz]
            clear hz
            have hn := newE_below u3 (.cells #[.slice z.o.a z.o.n z.o.c, .int .u16 (t : Int), .int .u16 (cl : Int), .int .u32 (tt : Int), .slice z.d.p1.a z.d.p1.n z.d.p1.c, .slice z.d.p2.a z.d.p2.n z.d.p2.c, .slice z.d.p3.a z.d.p3.n z.d.p3.c, .slice z.d.p4.a z.d.p4.n z.d.p4.c] 37)
            have hnx : (u3.alloc (.cells #[.slice z.o.a z.o.n z.o.c, .int .u16 (t : Int), .int .u16 (cl : Int), .int .u32 (tt : Int), .slice z.d.p1.a z.d.p1.n z.d.p1.c, .slice z.d.p2.a z.d.p2.n z.d.p2.c, .slice z.d.p3.a z.d.p3.n z.d.p3.c, .slice z.d.p4.a z.d.p4.n z.d.p4.c] 37)).heap[u3.heap.size]? = some (.cells #[.slice z.o.a z.o.n z.o.c, .int .u16 (t : Int), .int .u16 (cl : Int), .int .u32 (tt : Int), .slice z.d.p1.a z.d.p1.n z.d.p1.c, .slice z.d.p2.a z.d.p2.n z.d.p2.c, .slice z.d.p3.a z.d.p3.n z.d.p3.c, .slice z.d.p4.a z.d.p4.n z.d.p4.c] 37) := heap_alloc_new _ _
            have HU4 : Hid (Below V.heap.size V (u3.alloc (.cells #[.slice z.o.a z.o.n z.o.c, .int .u16 (t : Int), .int .u16 (cl : Int), .int .u32 (tt : Int), .slice z.d.p1.a z.d.p1.n z.d.p1.c, .slice z.d.p2.a z.d.p2.n z.d.p2.c, .slice z.d.p3.a z.d.p3.n z.d.p3.c, .slice z.d.p4.a z.d.p4.n z.d.p4.c] 37))) := HU3.out.trans (hn.mono HU3.out.size)
            have K15 := Lib.hid (samer45 z XA R _ (RRd_below HZ.out hn) (RRd_below (RRd_below HRR.out HV0.out) HU4.out))
            rw [HRC2.out z, HRC.out] at K15
            have j0 := box_cell hnx 0 _ rfl
            have j1 := box_cell hnx 1 _ rfl
            have j2 := box_cell hnx 2 _ rfl
            have j3 := box_cell hnx 3 _ rfl
            have j4 := box_cell hnx 4 _ rfl
            have j5 := box_cell hnx 5 _ rfl
            have j6 := box_cell hnx 6 _ rfl
            have j7 := box_cell hnx 7 _ rfl
            have jl := box_lt hnx
            clear hn hnx
            go_upto_region 13 with fail
            generalize u3.alloc (.cells #[.slice z.o.a z.o.n z.o.c, .int .u16 (t : Int), .int .u16 (cl : Int), .int .u32 (tt : Int), .slice z.d.p1.a z.d.p1.n z.d.p1.c, .slice z.d.p2.a z.d.p2.n z.d.p2.c, .slice z.d.p3.a z.d.p3.n z.d.p3.c, .slice z.d.p4.a z.d.p4.n z.d.p4.c] 37) = u4 at *
            obtain ⟨c2, hc2⟩ : ∃ c2, c2 = u3.heap.size := ⟨_, rfl⟩
            simp only [← hc2] at j0 j1 j2 j3 j4 j5 j6 j7 jl ⊢
            clear hc2
            obtain ⟨r0, r1, r2, r3, r4, r5, r6, r7⟩ := KR u4 HU4.out
            have lr : b + 1 < u4.heap.size := Nat.lt_of_lt_of_le (box_lt HV2.out) (Below.size HU4.out)
            go_wp2_with fail
            refine K15.out.mono ?_
            rintro e u5 ⟨rfl, U5⟩
            have HU5 : Hid (Below V.heap.size V u5) := HU4.out.trans (U5.mono HU4.out.size)
            clear U5 K15
            go_wp2
            go_ret
            exact ⟨rfl, HV0.out.trans (HU5.out.mono HV0.out.size)⟩
          · have hN : gopt R.d.raw = none := by
              cases h : gopt R.d.raw with
              | none => rfl
              | some l => exact absurd ⟨l, h⟩ hG
            have K13 := Lib.hid (read13_no XA R w4 HTT.out.2 hF ((HRR.out.2.h4.below HV0.out).below HBW.out) hN)
            rw [HRC.out] at K13
            clear hF hG hN
            go_wp2_with fail
            refine K13.out.mono ?_
            rintro e u1 ⟨rfl, U1⟩
            have HU1 : Hid (Below V.heap.size V u1) := HBW.out.trans (U1.out.mono HBW.out.size)
            have HU2 : Hid (Below V.heap.size V (u1.alloc (.cells #[.int .i64 0, .int .i64 0, .int .i64 0, .bool false, .slice none 0 0] 24))) := HU1.out.trans ((newE_below _ _).mono HU1.out.size)
            clear r0 r1 r2 r3 r4 r5 r6 r7 lr K13
            go_wp2
            go_ret
            exact ⟨rfl, HV0.out.trans (HU2.out.mono HV0.out.size)⟩
        · have K13 := Lib.hid (read13_form XA R w4 HTT.out.2 hF)
          rw [HRC.out] at K13
          clear hF
          go_wp2_with fail
          refine K13.out.mono ?_
          rintro e u1 ⟨rfl, U1⟩
          have HU1 : Hid (Below V.heap.size V u1) := HBW.out.trans (U1.out.mono HBW.out.size)
          have HU2 : Hid (Below V.heap.size V (u1.alloc (.cells #[.int .i64 0, .int .i64 0, .int .i64 0, .bool false, .slice none 0 0] 24))) := HU1.out.trans ((newE_below _ _).mono HU1.out.size)
          clear r0 r1 r2 r3 r4 r5 r6 r7 lr K13
          go_wp2
          go_ret
          exact ⟨rfl, HV0.out.trans (HU2.out.mono HV0.out.size)⟩
end Go.Proofs.Ytgeoadkcmbageaa
namespace Go.Proofs.Ytgeoadkcmbageaa
open Go.ChangeShapes Go.WideShapes Go.ChangeAt Go.RowKit Go.Deep
set_option linter.unusedVariables false
set_option linter.unusedSimpArgs false
set_option maxRecDepth 100000
theorem array5 {α : Type} {cs : Array α} (h : cs.size = 5) : ∃ v0 v1 v2 v3 v4, cs = #[v0, v1, v2, v3, v4] := by
  obtain ⟨l⟩ := cs
  match l, h with
  | [v0, v1, v2, v3, v4], _ => exact ⟨v0, v1, v2, v3, v4, rfl⟩
theorem array8 {α : Type} {cs : Array α} (h : cs.size = 8) : ∃ v0 v1 v2 v3 v4 v5 v6 v7, cs = #[v0, v1, v2, v3, v4, v5, v6, v7] := by
  obtain ⟨l⟩ := cs
  match l, h with
  | [v0, v1, v2, v3, v4, v5, v6, v7], _ => exact ⟨v0, v1, v2, v3, v4, v5, v6, v7, rfl⟩
variable {H : Type} {enc : TypeId × Value → H} {W : World}
theorem field_at {t : TypeId} {fs : Array Field} {fuel : Nat} {cs : List Value} {x : DataW H × List MemPlace} (ht : Try.prog.underlying t = some (.struct fs)) (h : DataW.trod enc Try.prog W 0 (fun _ => true) true fuel t cs = some x) (i : Nat) (f : Field) (hf : fs[i]? = some f) (k : Nat) (hk : Try.prog.cellsOf f.type = k) :
    ∃ n y, DataW.trod enc Try.prog W 0 (fun _ => true) true n f.type ((cs.drop f.offset).take k) = some y := by
  obtain ⟨xs, n, _, _, _, hlen, hall⟩ := DataW.trod_struct ht h
  have := hall i f hf
  rw [hk] at this
  have hi : i < fs.size := (Array.getElem?_eq_some_iff.1 hf).1
  exact ⟨n, _, this.trans (List.getElem?_eq_getElem (by rw [hlen]; exact hi))⟩
theorem open_data4 {fuel : Nat} {v0 v1 v2 v3 : Value} {x : DataW H × List MemPlace} (h : DataW.trod enc Try.prog W 0 (fun _ => true) true fuel 35 [v0, v1, v2, v3] = some x) :
    ∃ (x : DA) (y : Dat), v0 = .slice x.p1.a x.p1.n x.p1.c ∧ v1 = .slice x.p2.a x.p2.n x.p2.c ∧ v2 = .slice x.p3.a x.p3.n x.p3.c ∧ v3 = .slice x.p4.a x.p4.n x.p4.c ∧ DRd W x y := by
  obtain ⟨_, _, t0⟩ := field_at Try.underlying35 h 0 _ rfl 1 (by kernel_rfl)
  obtain ⟨_, _, t1⟩ := field_at Try.underlying35 h 1 _ rfl 1 (by kernel_rfl)
  obtain ⟨_, _, t2⟩ := field_at Try.underlying35 h 2 _ rfl 1 (by kernel_rfl)
  obtain ⟨_, _, t3⟩ := field_at Try.underlying35 h 3 _ rfl 1 (by kernel_rfl)
  replace t0 : DataW.trod enc Try.prog W 0 (fun _ => true) true _ 31 [v0] = some _ := t0
  replace t1 : DataW.trod enc Try.prog W 0 (fun _ => true) true _ 32 [v1] = some _ := t1
  replace t2 : DataW.trod enc Try.prog W 0 (fun _ => true) true _ 25 [v2] = some _ := t2
  replace t3 : DataW.trod enc Try.prog W 0 (fun _ => true) true _ 33 [v3] = some _ := t3
  obtain ⟨a0, n0, c0, rfl⟩ := slice_of (t := 31) (e := 26) Try.underlying31 t0
  obtain ⟨a1, n1, c1, rfl⟩ := slice_of (t := 32) (e := 30) Try.underlying32 t1
  obtain ⟨a2, n2, c2, rfl⟩ := slice_of (t := 25) (e := 9) Try.underlying25 t2
  obtain ⟨a3, n3, c3, rfl⟩ := slice_of (t := 33) (e := 5) Try.underlying33 t3
  obtain ⟨nss, h0⟩ := open_namesD t0
  obtain ⟨us, h1⟩ := open_numsD t1
  obtain ⟨ss, h2⟩ := open_texts Try.underlying25 t2
  obtain ⟨zs, h3⟩ := open_bytesD t3
  exact ⟨⟨⟨a0, n0, c0⟩, ⟨a1, n1, c1⟩, ⟨a2, n2, c2⟩, ⟨a3, n3, c3⟩⟩, ⟨nss, us, ss, zs⟩, rfl, rfl, rfl, rfl, h0, h1, h2, h3⟩
theorem open_rec8 {fuel : Nat} {v0 v1 v2 v3 v4 v5 v6 v7 : Value} {x : DataW H × List MemPlace} (h : DataW.trod enc Try.prog W 0 (fun _ => true) true fuel 37 [v0, v1, v2, v3, v4, v5, v6, v7] = some x) :
    ∃ (x : RA) (r : Rec), [v0, v1, v2, v3, v4, v5, v6, v7] = recCells x r ∧ RRd W x r ∧ r.t < 65536 ∧ r.cl < 65536 ∧ r.tt < 4294967296 := by
  obtain ⟨_, _, t0⟩ := field_at Try.underlying37 h 0 _ rfl 1 (by kernel_rfl)
  obtain ⟨_, _, t1⟩ := field_at Try.underlying37 h 1 _ rfl 1 (by kernel_rfl)
  obtain ⟨_, _, t2⟩ := field_at Try.underlying37 h 2 _ rfl 1 (by kernel_rfl)
  obtain ⟨_, _, t3⟩ := field_at Try.underlying37 h 3 _ rfl 1 (by kernel_rfl)
  obtain ⟨_, _, t4⟩ := field_at Try.underlying37 h 4 _ rfl 4 (by kernel_rfl)
  replace t0 : DataW.trod enc Try.prog W 0 (fun _ => true) true _ 26 [v0] = some _ := t0
  replace t1 : DataW.trod enc Try.prog W 0 (fun _ => true) true _ 28 [v1] = some _ := t1
  replace t2 : DataW.trod enc Try.prog W 0 (fun _ => true) true _ 29 [v2] = some _ := t2
  replace t3 : DataW.trod enc Try.prog W 0 (fun _ => true) true _ 30 [v3] = some _ := t3
  replace t4 : DataW.trod enc Try.prog W 0 (fun _ => true) true _ 35 [v4, v5, v6, v7] = some _ := t4
  obtain ⟨a, n, c, rfl⟩ := slice_of (t := 26) (e := 9) Try.underlying26 t0
  obtain ⟨x1, e1, _, w1⟩ := DataW.trod_int (t := 28) Try.underlying28 t1
  obtain ⟨x2, e2, _, w2⟩ := DataW.trod_int (t := 29) Try.underlying29 t2
  obtain ⟨x3, e3, _, w3⟩ := DataW.trod_int (t := 30) Try.underlying30 t3
  obtain ⟨xd, d, rfl, rfl, rfl, rfl, hd⟩ := open_data4 t4
  simp only [List.cons.injEq, and_true] at e1 e2 e3
  subst e1 e2 e3
  have b1 := bounds_u16 w1
  have b2 := bounds_u16 w2
  have b3 : 0 ≤ x3 ∧ x3 ≤ 4294967295 := by have := w3; simp [Lit.wf, IntKind.min, IntKind.max, IntKind.bits, IntKind.signed] at this; omega
  obtain ⟨ss, hss⟩ := open_texts Try.underlying26 t0
  refine ⟨⟨⟨a, n, c⟩, xd⟩, ⟨ss, x1.toNat, x2.toNat, x3.toNat, d⟩, ?_, ⟨hss, hd⟩, by show x1.toNat < 65536; omega, by show x2.toNat < 65536; omega, by show x3.toNat < 4294967296; omega⟩
  simp only [recCells, Int.toNat_of_nonneg b1.1, Int.toNat_of_nonneg b2.1, Int.toNat_of_nonneg b3.1]
theorem open_rec {base : Nat} {v : Value} {d : DataW H} {p : List MemPlace} (hv : Value.okWide Try.prog W .any base 37 v) (h : DataW.Trod enc Try.prog W 0 (fun _ => true) true 37 v d p) :
    ∃ (x : RA) (r : Rec), v = .agg (recCells x r).toArray ∧ RRd W x r ∧ r.t < 65536 ∧ r.cl < 65536 ∧ r.tt < 4294967296 := by
  obtain ⟨cs, rfl, hsz⟩ := okWide_struct Try.underlying37 hv
  obtain ⟨v0, v1, v2, v3, v4, v5, v6, v7, rfl⟩ := array8 (hsz.trans (by kernel_rfl))
  obtain ⟨fuel, hf⟩ := h
  obtain ⟨x, r, e, h1, h2⟩ := open_rec8 (v0 := v0) (v1 := v1) (v2 := v2) (v3 := v3) (v4 := v4) (v5 := v5) (v6 := v6) (v7 := v7) hf
  exact ⟨x, r, by rw [← e], h1, h2⟩
theorem open_opt2 {fuel : Nat} {v0 v1 : Value} {x : DataW H × List MemPlace} (h : DataW.trod enc Try.prog W 0 (fun _ => true) true fuel 68 [v0, v1] = some x) :
    ∃ (y : Sl) (o : Opt), v0 = .int .u16 (o.cd : Int) ∧ v1 = .slice y.a y.n y.c ∧ BRd W y o.d ∧ o.cd < 65536 := by
  obtain ⟨_, _, t0⟩ := field_at Try.underlying68 h 0 _ rfl 1 (by kernel_rfl)
  obtain ⟨_, _, t1⟩ := field_at Try.underlying68 h 1 _ rfl 1 (by kernel_rfl)
  replace t0 : DataW.trod enc Try.prog W 0 (fun _ => true) true _ 27 [v0] = some _ := t0
  replace t1 : DataW.trod enc Try.prog W 0 (fun _ => true) true _ 33 [v1] = some _ := t1
  obtain ⟨x1, e1, _, w1⟩ := DataW.trod_int (t := 27) Try.underlying27 t0
  obtain ⟨a3, n3, c3, rfl⟩ := slice_of (t := 33) (e := 5) Try.underlying33 t1
  simp only [List.cons.injEq, and_true] at e1
  subst e1
  have b1 := bounds_u16 w1
  obtain ⟨zs, h3⟩ := open_bytesD t1
  exact ⟨⟨a3, n3, c3⟩, ⟨x1.toNat, zs⟩, by show Value.int .u16 x1 = .int .u16 (x1.toNat : Int); rw [Int.toNat_of_nonneg b1.1], rfl, h3, by show x1.toNat < 65536; omega⟩
theorem cells68 : Try.prog.cellsOf 68 = 2 := by kernel_rfl
theorem open_options {a : Option Addr} {len cap fuel : Nat} {x : DataW H × List MemPlace} (hf : DataW.trod enc Try.prog W 0 (fun _ => true) true fuel 22 [Value.slice a len cap] = some x) : ∃ os, OsRd W ⟨a, len, cap⟩ os := by
  rcases DataW.trod_slice Try.underlying22 hf with ⟨hcs, _⟩ | ⟨x, l, c, elems, rest, n, _, hcs, _, _, hl, hm, hel, hcell, _⟩
  · simp at hcs
    obtain ⟨rfl, rfl, rfl⟩ := hcs
    exact ⟨[], OsRd.none W⟩
  · simp at hcs
    obtain ⟨rfl, rfl, rfl⟩ := hcs
    rw [cells68] at hcell
    have hex : ∀ i, i < len → ∃ o : Opt, ∃ y : Sl, W.cell? ((x.add (i * 2)).add 0) = some (.int .u16 (o.cd : Int)) ∧ W.cell? ((x.add (i * 2)).add 1) = some (.slice y.a y.n y.c) ∧ BRd W y o.d ∧ o.cd < 65536 := by
      intro i hi
      have h1 := hcell i hi
      rw [List.getElem?_eq_getElem (by omega)] at h1
      rw [Option.bind_eq_some_iff] at h1
      obtain ⟨cs, h2, h3⟩ := h1
      obtain ⟨_, hlen, hc⟩ := World.cells?_some h2
      match cs, hlen with
      | [v0, v1], _ =>
        obtain ⟨y, o, rfl, rfl, ok1, ok2⟩ := open_opt2 h3
        exact ⟨o, y, (hc 0 (by omega)).trans rfl, (hc 1 (by omega)).trans rfl, ok1, ok2⟩
    obtain ⟨os, hlen, hos⟩ := list_of len _ hex
    have hcd : ∀ o ∈ os, o.cd < 65536 := by
      intro o ho
      obtain ⟨i, hi, rfl⟩ := List.getElem_of_mem ho
      obtain ⟨_, _, _, _, h⟩ := hos i (by omega)
      exact h
    refine ⟨os, ?_, hlen, ⟨hl, by simp only [maxLen] at hm; exact hm⟩, by simp, hcd⟩
    by_cases h0 : len = 0
    · left; exact List.eq_nil_of_length_eq_zero (by omega)
    · right
      obtain ⟨b, off, spot⟩ := x
      obtain ⟨y0, hc0, _⟩ := hos 0 (by omega)
      have hspot : spot = none := by simpa [Addr.add] using World.cell?_spot hc0
      subst hspot
      have hlt : b < W.heap.size := by
        have := World.block_lt_of_cell? W _ hc0
        simpa [Addr.add] using this
      refine ⟨b, off, rfl, hlt, fun i hi => ?_⟩
      obtain ⟨y, e1, e2, ok, _⟩ := hos i (by omega)
      refine ⟨y, ?_, ?_, ok⟩
      · rw [Addr.add_lit, Addr.add_lit] at e1; exact e1
      · rw [Addr.add_lit, Addr.add_lit] at e2; exact e2
theorem open_edns {base : Nat} {v : Value} {d : DataW H} {p : List MemPlace} (hv : Value.okWide Try.prog W .any base 24 v) (h : DataW.Trod enc Try.prog W 0 (fun _ => true) true 24 v d p) :
    ∃ (E : Edn) (s : Sl), v = .agg #[.int .i64 E.sz, .int .i64 E.hi, .int .i64 E.ve, .bool E.dd, .slice s.a s.n s.c] ∧ OsRd W s E.os := by
  obtain ⟨cs, rfl, hsz⟩ := okWide_struct Try.underlying24 hv
  obtain ⟨v0, v1, v2, v3, v4, rfl⟩ := array5 (hsz.trans (by kernel_rfl))
  obtain ⟨fuel, hf0⟩ := h
  have hf : DataW.trod enc Try.prog W 0 (fun _ => true) true fuel 24 [v0, v1, v2, v3, v4] = some _ := hf0
  obtain ⟨_, _, t0⟩ := field_at Try.underlying24 hf 0 _ rfl 1 (by kernel_rfl)
  obtain ⟨_, _, t1⟩ := field_at Try.underlying24 hf 1 _ rfl 1 (by kernel_rfl)
  obtain ⟨_, _, t2⟩ := field_at Try.underlying24 hf 2 _ rfl 1 (by kernel_rfl)
  obtain ⟨_, _, t3⟩ := field_at Try.underlying24 hf 3 _ rfl 1 (by kernel_rfl)
  obtain ⟨_, _, t4⟩ := field_at Try.underlying24 hf 4 _ rfl 1 (by kernel_rfl)
  replace t0 : DataW.trod enc Try.prog W 0 (fun _ => true) true _ 3 [v0] = some _ := t0
  replace t1 : DataW.trod enc Try.prog W 0 (fun _ => true) true _ 3 [v1] = some _ := t1
  replace t2 : DataW.trod enc Try.prog W 0 (fun _ => true) true _ 3 [v2] = some _ := t2
  replace t3 : DataW.trod enc Try.prog W 0 (fun _ => true) true _ 4 [v3] = some _ := t3
  replace t4 : DataW.trod enc Try.prog W 0 (fun _ => true) true _ 22 [v4] = some _ := t4
  obtain ⟨x0, e0, _, w0⟩ := DataW.trod_int (t := 3) Try.underlying3 t0
  obtain ⟨x1, e1, _, w1⟩ := DataW.trod_int (t := 3) Try.underlying3 t1
  obtain ⟨x2, e2, _, w2⟩ := DataW.trod_int (t := 3) Try.underlying3 t2
  obtain ⟨x3, e3, _⟩ := DataW.trod_bool (t := 4) Try.underlying4 t3
  obtain ⟨a, n, c, rfl⟩ := slice_of (t := 22) (e := 68) Try.underlying22 t4
  simp only [List.cons.injEq, and_true] at e0 e1 e2 e3
  subst e0 e1 e2 e3
  obtain ⟨os, ho⟩ := open_options t4
  exact ⟨⟨x0, x1, x2, x3, os⟩, ⟨a, n, c⟩, rfl, ho⟩
theorem backPlain (E : Edn) (s : Sl) (x : RA) (r : Rec) (w : World) (hE : OsRd w s E.os) (hr : RRd w x r) (hcl : r.cl < 65536) (htt : r.tt < 4294967296) : Calls Try.prog 5 #[.agg #[.int .i64 E.sz, .int .i64 E.hi, .int .i64 E.ve, .bool E.dd, .slice s.a s.n s.c], .agg (recCells x r).toArray] w fun e w' => e = .returned (.bool true) ∧ Below w.heap.size w w' := by
  refine (backL E s x r w hE hr hcl htt).mono ?_
  rintro e w' ⟨h1, h2⟩
  exact ⟨h1, h2.out⟩
end Go.Proofs.Ytgeoadkcmbageaa
