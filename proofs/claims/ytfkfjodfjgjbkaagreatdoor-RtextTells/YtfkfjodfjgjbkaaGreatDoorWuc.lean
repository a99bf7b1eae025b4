/- Texts laid together, in parts: Th Xa Xd Xe Shelf Lz Ly Lx Xb Nxi Pc Ff Ocb Occ Ocd Hh Hi Ra Ga Gd Ge Hj Hk Hl Hm Hp Hn Hq Qa Sd Qb. -/
import Derived.Test.YtfkfjodfjgjbkaaGreatDoorWub
import Derived.Lib.ItoaNum
import Derived.Lib.Split
import Derived.Lib.ParseIntB
import Derived.Lib.Join
import Derived.Shelf.Strings.OnBuilder
import Derived.Shelf.Strconv.Itoa1
import Derived.Shelf.LaysM
import Derived.Shelf.Strconv.Itoa2
import Derived.Shelf.Strconv.Itoa3
import Derived.Shelf.LaysC
import Derived.Shelf.Strconv.ToError
import Derived.Shelf.Strconv.Lower
import Derived.Shelf.Strconv.ToErrorRange
import Derived.Shelf.Pu.ParseUintPublic10
import Derived.Shelf.Pu.ErrVarParseUint
import Derived.Shelf.Strings.Search3
import Derived.Shelf.Strings.Cut
import Derived.Shelf.Strings.Split
import Derived.Test.YtfkfjodfjgjbkaaGreatDoorProg
import Derived.Lib.SmallJoins
import Derived.Lib.AppendIntMem
import Derived.Lib.AtoiAllMem
import Derived.BigCall
import Derived.BigGuard
import Derived.Lib.ConvBytes
import Derived.Lib.ParseIntBMem
import Derived.Lib.Hide
import Derived.Laws.Strings3
import Derived.Laws.Closers25
import Derived.Laws.Closers25b
import Derived.BigQuiet
import Derived.Deep.QuietTactic
import Derived.Lib.AppendZerosOnto
import Derived.Lib.AppendStr
import Derived.LaidEqlPtr
import Derived.WalkSpells
import Derived.Deep.RegionHeld3
import Derived.Deep.RegionLaw
import Derived.Deep.CutBlock
namespace Go.Proofs.YtfkfjodfjgjbkaaGreatDoor
open Go.ChangeShapes Go.WideShapes Go.ChangeAt Go.RowKit
set_option linter.unusedVariables false
set_option linter.unusedSimpArgs false
set_option maxRecDepth 100000 in
set_option maxHeartbeats 1000000 in
theorem refcheck_wide (a : Option Addr) (len cap : Nat) (ss : List ByteArray) (w : World) (hr : RdT w a ss) (hl : ss.length = len) (hm : labsOk ss → nsz ss ≤ 1000000000000000) (hlen : len ≤ 9223372036854775807) (hz : ∀ s ∈ ss, s.size ≤ 9223372036854775807) :
    Calls Tryz.prog 73 #[.slice a len cap] w fun e w' => e = .returned (.int .i64 (nck ss)) ∧ w' = w := by
  have HR : Hid (RdT w a ss ∧ ∀ s ∈ ss, s.size ≤ 9223372036854775807) := ⟨hr, hz⟩
  have HL : Hid (ss.length = len) := hl
  have HS : Hid (labsOk ss → ∀ W, RdT W a ss → Calls Tryz.prog 107 #[.slice a len cap] W fun e w' => e = .returned (.int .i64 (nsz ss)) ∧ w' = W) := fun ho W hW => refsize_any a len cap ss W hW hl (hm ho)
  obtain ⟨T, hT⟩ : ∃ T, nsz ss = T := ⟨_, rfl⟩
  have HT : Hid (nsz ss = T) := hT
  rw [hT] at HS
  clear hr hl hT hz hm
  go_enter Tryz.func73, Tryz.ntmps73
  go_wp2_with fail
  go_loopw [3] (fun x wr => ∃ k : Nat, k ≤ len ∧ x = .int .i64 k ∧ wr = w ∧ Hid (∀ i (h : i < ss.length), i < k → chk ss[i].size = 0)) (fun x _ => len - (intOf x).toNat)
  case atStart => exact ⟨0, Nat.zero_le _, rfl, rfl, fun i _ h => absurd h (by omega)⟩
  case round =>
    obtain ⟨k, hk, rfl, rfl, HK⟩ := hrel
    by_cases hlt : k < len
    · have hlt' : (k : Int) < (len : Int) := by omega
      have hks : k < ss.length := by rw [HL.out]; exact hlt
      obtain ⟨b, o, rfl, hb, hc⟩ := HR.out.1.at k hks
      have HC : Hid (∀ W, Calls Tryz.prog 106 #[.string ss[k]] W fun e w' => e = .returned (.int .i64 (chk ss[k].size)) ∧ w' = W) := fun W => rchk_any ss[k] W (HR.out.2 _ (List.getElem_mem hks))
      rcases chk_cases ss[k].size with hk0 | hk4
      · have HN : Hid (∀ i (h : i < ss.length), i < k + 1 → chk ss[i].size = 0) := by
          intro i h hi
          by_cases e : i = k
          · subst e; exact hk0
          · exact HK.out i h (by omega)
        rw [hk0] at HC
        clear hk0 HK
        generalize ss[k] = s at *
        go_wp2_with fail
        refine (HC.out _).mono ?_
        rintro e w1 ⟨rfl, rfl⟩
        go_wp2
        exact ⟨⟨k + 1, by omega, by go_num, trivial, HN⟩, by simp [intOf]; omega⟩
      · have HE : Hid (nck ss = 4) := by
          show nck ss = 4
          unfold nck
          rw [if_neg (fun h => by have := h _ (List.getElem_mem hks); rw [hk4] at this; cases this)]
        rw [hk4] at HC
        clear hk4 HK
        generalize ss[k] = s at *
        go_wp2_with fail
        refine (HC.out _).mono ?_
        rintro e w1 ⟨rfl, rfl⟩
        go_wp2
        go_ret
        exact ⟨by rw [HE.out]; rfl, rfl⟩
    · have hge : (len : Int) ≤ (k : Int) := by omega
      have HO : Hid (labsOk ss) := by
        intro s hs
        obtain ⟨i, hi, rfl⟩ := List.getElem_of_mem hs
        exact HK.out i hi (by have := HL.out; omega)
      by_cases hb : 255 < T
      · have HE : Hid (nck ss = 5) := by show nck ss = 5; unfold nck; rw [if_pos HO.out, HT.out, if_pos hb]
        have hb' : (255 : Int) < (T : Int) := by omega
        clear HK
        go_wp2_with fail
        refine (HS.out HO.out _ HR.out.1).mono ?_
        rintro e w1 ⟨rfl, rfl⟩
        go_wp2
        go_ret
        exact ⟨by rw [HE.out]; rfl, rfl⟩
      · have HE : Hid (nck ss = 0) := by show nck ss = 0; unfold nck; rw [if_pos HO.out, HT.out, if_neg hb]
        have hb' : ¬ (255 : Int) < (T : Int) := by omega
        clear HK
        go_wp2_with fail
        refine (HS.out HO.out _ HR.out.1).mono ?_
        rintro e w1 ⟨rfl, rfl⟩
        go_wp2
        go_ret
        exact ⟨by rw [HE.out]; rfl, rfl⟩
set_option maxRecDepth 100000 in
set_option maxHeartbeats 4000000 in
theorem rcheck_wide (t : Nat) (x : DA) (d : Dat) (w : World) (h : DRd w x d) (hn : ∀ n ∈ d.ns, n.length ≤ 1000000) (hB : (∀ n ∈ d.ns, nck n = 0) → sizesF t d ≤ 1000000000000000) :
    Calls Tryz.prog 38 #[.int .u16 t, .agg #[.slice x.p1.a x.p1.n x.p1.c, .slice x.p2.a x.p2.n x.p2.c, .slice x.p3.a x.p3.n x.p3.c, .slice x.p4.a x.p4.n x.p4.c]] w fun e w' => e = .returned (.int .i64 (checkF t d)) ∧ Hid (Below w.heap.size w w') := by
  have hb0 : Below w.heap.size w (w.alloc (.cells #[.slice x.p1.a x.p1.n x.p1.c, .slice x.p2.a x.p2.n x.p2.c, .slice x.p3.a x.p3.n x.p3.c, .slice x.p4.a x.p4.n x.p4.c] 29)) := (Below.refl _ _).alloc (Nat.le_refl _) _
  have H : Hid (DBox (w.alloc (.cells #[.slice x.p1.a x.p1.n x.p1.c, .slice x.p2.a x.p2.n x.p2.c, .slice x.p3.a x.p3.n x.p3.c, .slice x.p4.a x.p4.n x.p4.c] 29)) w.heap.size x ∧ DRd (w.alloc (.cells #[.slice x.p1.a x.p1.n x.p1.c, .slice x.p2.a x.p2.n x.p2.c, .slice x.p3.a x.p3.n x.p3.c, .slice x.p4.a x.p4.n x.p4.c] 29)) x d ∧ Below w.heap.size w (w.alloc (.cells #[.slice x.p1.a x.p1.n x.p1.c, .slice x.p2.a x.p2.n x.p2.c, .slice x.p3.a x.p3.n x.p3.c, .slice x.p4.a x.p4.n x.p4.c] 29))) := ⟨DBox.new w x, h.below hb0, hb0⟩
  have KF : Hid (∀ W, DRd W x d → Calls Tryz.prog 72 #[.int .u16 t, .agg #[.int .i64 (shp t).nn, .int .i64 (shp t).nu, .int .i64 (shp t).nt, .int .i64 (shp t).nr, .int .i64 (shp t).wd], .agg #[.slice x.p1.a x.p1.n x.p1.c, .slice x.p2.a x.p2.n x.p2.c, .slice x.p3.a x.p3.n x.p3.c, .slice x.p4.a x.p4.n x.p4.c]] W fun e w' => e = .returned (.bool (fitsB t d)) ∧ Hid (Below W.heap.size W w')) := fun W hd => fits_any (shp t) t (shp_257 t) x d W hd
  have KZ : Hid ((∀ n ∈ d.ns, nck n = 0) → ∀ W, DRd W x d → Calls Tryz.prog 74 #[.int .u16 t, .agg #[.int .i64 (shp t).nn, .int .i64 (shp t).nu, .int .i64 (shp t).nt, .int .i64 (shp t).nr, .int .i64 (shp t).wd], .agg #[.slice x.p1.a x.p1.n x.p1.c, .slice x.p2.a x.p2.n x.p2.c, .slice x.p3.a x.p3.n x.p3.c, .slice x.p4.a x.p4.n x.p4.c]] W fun e w' => e = .returned (.int .i64 (sizesF t d : Nat)) ∧ Hid (Below W.heap.size W w')) := fun hall W hd => sizes_any (shp t) t (shp_wd t) x d W hd (hB hall)
  have KO : Hid (∀ W, Calls Tryz.prog 71 #[.int .u16 t] W fun e w' => e = .returned (.tuple #[.agg #[.int .i64 (shp t).nn, .int .i64 (shp t).nu, .int .i64 (shp t).nt, .int .i64 (shp t).nr, .int .i64 (shp t).wd], .bool (mayT t)]) ∧ Hid (Below W.heap.size W w')) := fun W => of_any t W
  have hc1 : x.p1.n ≤ 9223372036854775807 := Nat.le_trans h.h1.cap.1 h.h1.cap.2
  have HL : Hid (d.ns.length = x.p1.n) := h.h1.len
  have HNB : Hid (∀ n ∈ d.ns, labsOk n → nsz n ≤ 1000000000000000) := by
    intro n hn' ho
    have h1 := nsz_labs n ho
    have h2 := hn n hn'
    omega
  have HQ : Hid (checkF t d = if mayT t then (if fitsB t d then (if nsErr d.ns = 0 then (if 65535 < sizesF t d then 3 else 0) else nsErr d.ns) else 7) else 6) := (show _ = _ from rfl)
  obtain ⟨C, hC⟩ : ∃ C, checkF t d = C := ⟨_, rfl⟩
  rw [hC] at HQ ⊢
  clear hC h hb0
  generalize (shp t) = s at *
  generalize hmay : mayT t = mt at *
  generalize hfit : fitsB t d = ft at *
  generalize hsz : sizesF t d = sz at *
  clear hmay hfit hsz
  obtain ⟨nn, nu, nt, nr, wd⟩ := s
  obtain ⟨⟨a1, n1, k1⟩, ⟨a2, n2, k2⟩, ⟨a3, n3, k3⟩, ⟨a4, n4, k4⟩⟩ := x
  simp only at H KF KZ KO hc1 HL ⊢
  go_enter Tryz.func38, Tryz.ntmps38
  go_wp2_with fail
  generalize (w.alloc (.cells #[.slice a1 n1 k1, .slice a2 n2 k2, .slice a3 n3 k3, .slice a4 n4 k4] 29)) = W1 at *
  obtain ⟨b, hb⟩ : ∃ b, b = w.heap.size := ⟨_, rfl⟩
  rw [← hb] at H ⊢
  have Hb : Hid (b = w.heap.size) := hb
  clear hb
  refine (KO.out W1).mono ?_
  rintro e W2 ⟨rfl, H2⟩
  have H3 : Hid (CkSt w (W2.alloc (.cells #[.int .i64 nn, .int .i64 nu, .int .i64 nt, .int .i64 nr, .int .i64 wd] 107)) b W2.heap.size ⟨nn, nu, nt, nr, wd⟩ ⟨⟨a1, n1, k1⟩, ⟨a2, n2, k2⟩, ⟨a3, n3, k3⟩, ⟨a4, n4, k4⟩⟩ d) := CkSt.new ⟨nn, nu, nt, nr, wd⟩ (H.out.1.below H2.out) (H.out.2.1.below H2.out) (by have := H.out.2.2; rw [Hb.out] at this; exact this.trans (H2.out.mono this.size))
  clear H H2 KO
  cases mt with
  | false =>
    have HE : Hid (C = 6) := by show C = 6; have := HQ.out; simpa using this
    clear HQ KF KZ
    go_wp2_with fail
    go_ret
    exact ⟨by rw [HE.out]; rfl, H3.out.2.2.2⟩
  | true =>
    go_upto_region 4 with fail
    generalize (W2.alloc (.cells #[.int .i64 nn, .int .i64 nu, .int .i64 nt, .int .i64 nr, .int .i64 wd] 107)) = W3 at *
    generalize W2.heap.size = g at *
    have s0 := H3.out.2.1.1
    have s1 := H3.out.2.1.2.1
    have s2 := H3.out.2.1.2.2.1
    have s3 := H3.out.2.1.2.2.2.1
    have s4 := H3.out.2.1.2.2.2.2.1
    have c0 := H3.out.1.1
    have c1 := H3.out.1.2.1
    have c2 := H3.out.1.2.2.1
    have c3 := H3.out.1.2.2.2.1
    simp only at s0 s1 s2 s3 s4 c0 c1 c2 c3
    go_wp2_with fail
    refine (KF.out W3 H3.out.2.2.1).mono ?_
    rintro e W4 ⟨rfl, H4⟩
    have H5 : Hid (CkSt w W4 b g ⟨nn, nu, nt, nr, wd⟩ ⟨⟨a1, n1, k1⟩, ⟨a2, n2, k2⟩, ⟨a3, n3, k3⟩, ⟨a4, n4, k4⟩⟩ d) := H3.out.go H4.out
    clear H3 H4 KF s0 s1 s2 s3 s4 c0 c1 c2 c3
    cases ft with
    | false =>
      have HE : Hid (C = 7) := by show C = 7; have := HQ.out; simpa using this
      clear HQ KZ
      go_wp2_with fail
      go_ret
      exact ⟨by rw [HE.out]; rfl, H5.out.2.2.2⟩
    | true =>
      have HQ2 : Hid (C = if nsErr d.ns = 0 then (if 65535 < sz then 3 else 0) else nsErr d.ns) := by show C = _; have := HQ.out; simpa using this
      clear HQ
      go_wp2_with fail
      go_loopw [7] (fun i wr => wr = W4 ∧ ∃ k : Nat, k ≤ n1 ∧ i = .int .i64 (k : Int) ∧ Hid (∀ n ∈ d.ns.take k, nck n = 0)) (fun i _ => n1 - (intOf i).toNat)
      case atStart => exact ⟨rfl, 0, Nat.zero_le _, rfl, by intro n hn; simp at hn⟩
      case round =>
        obtain ⟨hwr, k, hk, rfl, HA⟩ := hrel
        subst hwr
        have c0 := H5.out.1.1
        simp only at c0
        by_cases hlt : k < n1
        · have hlt' : (k : Int) < (n1 : Int) := by omega
          have hki : k < d.ns.length := by rw [HL.out]; exact hlt
          obtain ⟨B1, o1, ha1, hl1, z1, hz1, hr1⟩ := H5.out.2.2.1.h1.at k hki
          simp only at ha1
          subst ha1
          have HD : Hid (nsErr d.ns = if nck d.ns[k] = 0 then nsErr (d.ns.drop (k + 1)) else nck d.ns[k]) := by
            show _ = _
            rw [nsErr_drop d.ns k HA.out, List.drop_eq_getElem_cons hki]
            rfl
          have HA2 : Hid (nck d.ns[k] = 0 → ∀ n ∈ d.ns.take (k + 1), nck n = 0) := by
            intro h0 n hn
            rw [List.take_succ_eq_append_getElem hki] at hn
            simp only [List.mem_append, List.mem_singleton] at hn
            rcases hn with hn | rfl
            · exact HA.out n hn
            · exact h0
          have KC : Hid (∀ W, W = wr → Calls Tryz.prog 73 #[.slice z1.a z1.n z1.c] W fun e w' => e = .returned (.int .i64 (nck d.ns[k])) ∧ w' = W) := by
            intro W e
            subst e
            exact refcheck_wide z1.a z1.n z1.c d.ns[k] W hr1.rd hr1.len (HNB.out _ (List.getElem_mem _)) (Nat.le_trans hr1.cap.1 hr1.cap.2) hr1.z63
          clear hr1 HA
          generalize nck d.ns[k] = q at *
          generalize z1.a = za at *
          generalize z1.n = zn at *
          generalize z1.c = zc at *
          by_cases hq : q = 0
          · have hq' : (q != 0) = false := by simp [hq]
            have HA3 := HA2.out hq
            have HA4 : Hid (∀ n ∈ d.ns.take (k + 1), nck n = 0) := HA3
            clear HA3 HA2 HD hq
            go_wp2_with fail
            refine (KC.out _ rfl).mono ?_
            rintro e Wx ⟨rfl, rfl⟩
            go_wp2_with fail
            refine ⟨⟨by first | rfl | trivial, k + 1, by omega, by go_num, HA4⟩, ?_⟩
            simp [intOf]; omega
          · have hq' : (q != 0) = true := by simp [hq]
            have HE : Hid (C = q) := by
              have h1 := HQ2.out
              have h2 := HD.out
              rw [if_neg hq] at h2
              rw [h2, if_neg hq] at h1
              exact h1
            clear HA2 HD hq HQ2
            go_wp2_with fail
            refine (KC.out _ rfl).mono ?_
            rintro e Wx ⟨rfl, rfl⟩
            go_wp2_with fail
            go_ret
            exact ⟨by rw [HE.out]; rfl, H5.out.2.2.2⟩
        · have hge : ¬ (k : Int) < (n1 : Int) := by omega
          have HALL : Hid (∀ n ∈ d.ns, nck n = 0) := by
            have h1 := HA.out
            rw [List.take_of_length_le (by rw [HL.out]; omega)] at h1
            exact h1
          have HE : Hid (C = if 65535 < sz then 3 else 0) := by
            have h1 := HA.out
            rw [List.take_of_length_le (by rw [HL.out]; omega)] at h1
            have h2 := nsErr_drop d.ns d.ns.length (by rw [List.take_length]; exact h1)
            rw [List.drop_length] at h2
            have h3 := HQ2.out
            rw [h2] at h3
            exact h3
          clear HA HQ2
          have s0 := H5.out.2.1.1
          have s1 := H5.out.2.1.2.1
          have s2 := H5.out.2.1.2.2.1
          have s3 := H5.out.2.1.2.2.2.1
          have s4 := H5.out.2.1.2.2.2.2.1
          have c1 := H5.out.1.2.1
          have c2 := H5.out.1.2.2.1
          have c3 := H5.out.1.2.2.2.1
          simp only at s0 s1 s2 s3 s4 c1 c2 c3
          go_wp2_with fail
          refine (KZ.out HALL.out wr H5.out.2.2.1).mono ?_
          rintro e W6 ⟨rfl, H6⟩
          have HB7 : Hid (Below w.heap.size w W6) := (H5.out.go H6.out).2.2.2
          clear s0 s1 s2 s3 s4 c0 c1 c2 c3 H6
          by_cases hs : 65535 < sz
          · have hs' : (65535 : Int) < (sz : Int) := by omega
            have HE2 : Hid (C = 3) := by have := HE.out; rw [if_pos hs] at this; exact this
            go_wp2_with fail
            go_ret
            exact ⟨by rw [HE2.out]; rfl, HB7⟩
          · have hs' : ¬ (65535 : Int) < (sz : Int) := by omega
            have HE2 : Hid (C = 0) := by have := HE.out; rw [if_neg hs] at this; exact this
            go_wp2_with fail
            go_ret
            exact ⟨by rw [HE2.out]; rfl, HB7⟩
theorem rnby_le (l : List ByteArray) (h : ∀ s ∈ l, s.size ≤ 300) : (nby l).length ≤ 301 * l.length ∧ (l.flatMap nums).length ≤ 300 * l.length := by
  induction l with
  | nil => simp [nby]
  | cons a l ih =>
    obtain ⟨h1, h2⟩ := ih (fun s hs => h s (List.mem_cons_of_mem _ hs))
    have h3 := h a List.mem_cons_self
    have e1 : (nby (a :: l)).length = 1 + a.size + (nby l).length := by simp [nby, nums_len]; omega
    have e2 : ((a :: l).flatMap nums).length = a.size + (l.flatMap nums).length := by rw [List.flatMap_cons, List.length_append, nums_len]
    rw [e1, e2, List.length_cons]
    omega
theorem rsmall_tsz (t : Nat) (d : Dat) (h : Small d) : tsz t d.ts ≤ 1000000000000 := by
  have h1 := h.t
  unfold tsz
  split
  · have := (rnby_le d.ts h.tl).1; omega
  · split
    · omega
    · next s r e =>
      rw [e] at h1
      have h2 := h.tl
      rw [e] at h2
      have h3 := (rnby_le r (fun s hs => h2 s (List.mem_cons_of_mem _ hs))).2
      have h4 := h2 s List.mem_cons_self
      simp only [List.length_cons] at h1
      omega
theorem small_sizes (t : Nat) (d : Dat) (h : Small d) (hn : ∀ n ∈ d.ns, nck n = 0) : sizesF t d ≤ 1000000000000000 := by
  have hw := shp_wd t
  have h1 := sum_le (d.ns.map nsz) 255 (by
    intro x hx
    obtain ⟨n, hm, rfl⟩ := List.mem_map.1 hx
    exact (nck_small (hn n hm)).1)
  rw [List.length_map] at h1
  have h2 := h.n
  have h3 := h.u
  have h4 := h.r
  have h5 : tsz t d.ts ≤ 1000000000000 := rsmall_tsz t d h
  have h6 : d.us.length * (shp t).wd ≤ 12 * 4 := Nat.mul_le_mul h3 hw
  unfold sizesF
  omega
end Go.Proofs.YtfkfjodfjgjbkaaGreatDoor
namespace Go.Proofs.YtfkfjodfjgjbkaaGreatDoor
open Go Go.Lib
set_option linter.unusedVariables false
set_option linter.unusedSimpArgs false
/-- A byte as it stands in quotes. -/
def xq1 (c : Int) : List Int := if c < 32 ∨ 126 < c then [92, 48 + c / 100, 48 + c / 10 % 10, 48 + c % 10] else if c = 34 ∨ c = 92 then [92, c] else [c]
def xq (l : List Int) : List Int := l.flatMap xq1
def xquote (l : List Int) : List Int := 34 :: (xq l ++ [34])
theorem xq_print (l : List Int) (h : ∀ c ∈ l, 0 ≤ c ∧ c ≤ 255) : ∀ c ∈ xq l, 32 ≤ c ∧ c ≤ 126 := by
  intro c hc
  simp only [xq, List.mem_flatMap] at hc
  obtain ⟨b, hb, hc⟩ := hc
  have := h b hb
  unfold xq1 at hc
  split at hc
  · simp at hc; omega
  · split at hc
    · simp at hc; omega
    · simp at hc; omega
theorem xquote_print (l : List Int) (h : ∀ c ∈ l, 0 ≤ c ∧ c ≤ 255) : ∀ c ∈ xquote l, 32 ≤ c ∧ c ≤ 126 := by
  intro c hc
  simp only [xquote, List.mem_cons, List.mem_append, List.mem_singleton, List.not_mem_nil, or_false] at hc
  rcases hc with rfl | hc | rfl
  · omega
  · exact xq_print l h c hc
  · omega
def xjoin (c : Int) : List (List Int) → List Int
  | [] => []
  | [p] => p
  | p :: q :: ps => p ++ c :: xjoin c (q :: ps)
/-- Decimal digits. -/
def xdec (n : Nat) : List Int := (decDigits n).map fun b => (b.toNat : Int)
def xhd (v : Nat) : Int := if v < 10 then 48 + v else 87 + v
def xhex (n : Nat) : List Int := if h : n < 16 then [xhd n] else xhex (n / 16) ++ [xhd (n % 16)]
termination_by n
theorem xhex_len (n : Nat) (h : n < 65536) : 1 ≤ (xhex n).length ∧ (xhex n).length ≤ 4 := by
  rw [xhex]
  by_cases h1 : n < 16
  · rw [dif_pos h1]; simp
  · rw [dif_neg h1, xhex]
    by_cases h2 : n / 16 < 16
    · rw [dif_pos h2]; simp
    · rw [dif_neg h2, xhex]
      by_cases h3 : n / 16 / 16 < 16
      · rw [dif_pos h3]; simp
      · rw [dif_neg h3, xhex, dif_pos (by omega)]; simp
def xby (n : Nat) : List Int := [((n / 256 : Nat) : Int), ((n % 256 : Nat) : Int)]
def xcol (l : List Nat) : List Int := xjoin 58 (l.map xhex)
/-- How many noughts a list begins with. -/
def xzr : List Nat → Nat
  | [] => 0
  | n :: l => if n = 0 then xzr l + 1 else 0
theorem xzr_le (l : List Nat) : xzr l ≤ l.length := by
  induction l with
  | nil => simp [xzr]
  | cons n l ih => simp only [xzr]; split <;> simp; omega
/-- Where the first of the longest runs of two or more noughts begins, and how long it is. -/
def xstep (l : List Nat) (p : Nat × Nat) (i : Nat) : Nat × Nat := if p.2 < xzr (l.drop i) then (i, xzr (l.drop i)) else p
def xlong (l : List Nat) : Nat × Nat := if ((List.range l.length).foldl (xstep l) (0, 1)).2 < 2 then (l.length, 0) else (List.range l.length).foldl (xstep l) (0, 1)
theorem xstep_ok (l : List Nat) : ∀ (is : List Nat) (p : Nat × Nat), (p.2 = 1 ∨ p.2 ≤ xzr (l.drop p.1)) → ((is.foldl (xstep l) p).2 = 1 ∨ (is.foldl (xstep l) p).2 ≤ xzr (l.drop (is.foldl (xstep l) p).1)) := by
  intro is
  induction is with
  | nil => intro p h; exact h
  | cons i is ih =>
    intro p h
    rw [List.foldl_cons]
    apply ih
    unfold xstep
    split
    · exact .inr (Nat.le_refl _)
    · exact h
theorem xlong_ok (l : List Nat) : ((xlong l).2 = 0 ∧ (xlong l).1 = l.length) ∨ (2 ≤ (xlong l).2 ∧ (xlong l).2 ≤ xzr (l.drop (xlong l).1)) := by
  have h := xstep_ok l (List.range l.length) (0, 1) (.inl rfl)
  unfold xlong
  split
  · exact .inl ⟨rfl, rfl⟩
  · next hn => exact .inr ⟨by omega, by omega⟩
/-- The text of eight numbers. -/
def xa6 (l : List Nat) : List Int := if (xlong l).2 = 0 then xcol l else xcol (l.take (xlong l).1) ++ 58 :: 58 :: xcol (l.drop ((xlong l).1 + (xlong l).2))
theorem xdec_small {n : Nat} (h : n < 10) : xdec n = [48 + (n : Int)] := by
  unfold xdec
  rw [decDigits, dif_pos h]
  simp [UInt8.toNat_ofNat']
  omega
theorem xdec_big {n : Nat} (h : ¬ n < 10) : xdec n = xdec (n / 10) ++ [48 + ((n % 10 : Nat) : Int)] := by
  unfold xdec
  rw [decDigits, dif_neg h, List.map_append]
  congr 1
  simp [UInt8.toNat_ofNat']
  omega
theorem xdec_digit (n : Nat) : ∀ c ∈ xdec n, 48 ≤ c ∧ c ≤ 57 := by
  induction n using Nat.strongRecOn with
  | _ n ih =>
    by_cases h : n < 10
    · rw [xdec_small h]; intro c hc; simp at hc; subst hc; omega
    · rw [xdec_big h]; intro c hc
      simp only [List.mem_append, List.mem_singleton] at hc
      rcases hc with hc | rfl
      · exact ih (n / 10) (by omega) c hc
      · omega
def xprs : List Int → List Nat
  | a :: b :: l => (256 * a.toNat + b.toNat) :: xprs l
  | _ => []
def xaddr (b : List Int) : Option (List Int) := if b.length = 4 then some (xjoin 46 (b.map fun c => xdec c.toNat)) else if b.length = 16 then some (xa6 (xprs b)) else none
theorem xprs_by (l : List Int) : ∀ k, l.length = 2 * k → (∀ c ∈ l, 0 ≤ c ∧ c ≤ 255) → (xprs l).length = k ∧ (xprs l).flatMap xby = l ∧ ∀ n ∈ xprs l, n < 65536 := by
  intro k
  induction k generalizing l with
  | zero => intro h _; have : l = [] := List.length_eq_zero_iff.1 (by omega); subst this; simp [xprs]
  | succ k ih =>
    intro h hb
    match l, h with
    | a :: b :: l, h =>
      simp only [List.length_cons] at h
      obtain ⟨i1, i2, i3⟩ := ih l (by omega) (fun c hc => hb c (by simp [hc]))
      have ha := hb a (by simp)
      have hbb := hb b (by simp)
      refine ⟨by simp [xprs, i1], ?_, ?_⟩
      · simp only [xprs, List.flatMap_cons, i2]
        have e : xby (256 * a.toNat + b.toNat) = [a, b] := by
          unfold xby
          have e1 : (((256 * a.toNat + b.toNat) / 256 : Nat) : Int) = a := by omega
          have e2 : (((256 * a.toNat + b.toNat) % 256 : Nat) : Int) = b := by omega
          rw [e1, e2]
        rw [e]; rfl
      · intro n hn
        simp only [xprs, List.mem_cons] at hn
        rcases hn with rfl | hn
        · omega
        · exact i3 n hn
    | [a], h => simp at h; omega
    | [], h => simp at h
end Go.Proofs.YtfkfjodfjgjbkaaGreatDoor
namespace Go.Proofs.YtfkfjodfjgjbkaaGreatDoor
open Go Go.Lib
set_option linter.unusedVariables false
set_option linter.unusedSimpArgs false
def bi (l : List UInt8) : List Int := l.map fun b => (b.toNat : Int)
theorem bi_len (l : List UInt8) : (bi l).length = l.length := by simp [bi]
theorem join_x (c : UInt8) (xs : List (List UInt8)) : bi (Lib.join xs [c]) = xjoin c.toNat (xs.map bi) := by
  cases xs with
  | nil => rfl
  | cons x xs =>
    induction xs generalizing x with
    | nil => rw [join_one]; rfl
    | cons y r ih =>
      rw [join_cons]
      have h := ih y
      rw [join_cons] at h
      simp only [List.map_cons, xjoin]
      rw [List.map_cons] at h
      rw [← h]
      simp [joinTail, bi]
theorem bi_dec (n : Nat) : bi (decDigits n) = xdec n := rfl
end Go.Proofs.YtfkfjodfjgjbkaaGreatDoor
namespace Go.Proofs.YtfkfjodfjgjbkaaGreatDoor
open Go Go.Lib
set_option linter.unusedVariables false
set_option linter.unusedSimpArgs false
/-- One step of the mark that runs: where the longest run so far begins and ends, and where the run begins that the mark is in. -/
def lstep (l : List Nat) (s : Nat × Nat × Nat) (r : Nat) : Nat × Nat × Nat :=
  if max 1 (s.2.1 - s.1) < r + 1 - (if l.getD r 0 ≠ 0 then r + 1 else s.2.2) then ((if l.getD r 0 ≠ 0 then r + 1 else s.2.2), r + 1, (if l.getD r 0 ≠ 0 then r + 1 else s.2.2)) else (s.1, s.2.1, (if l.getD r 0 ≠ 0 then r + 1 else s.2.2))
def lrunK (l : List Nat) (k : Nat) : Nat × Nat × Nat := (List.range k).foldl (lstep l) (0, 0, 0)
theorem lrunK_succ (l : List Nat) (k : Nat) : lrunK l (k + 1) = lstep l (lrunK l k) k := by
  unfold lrunK; rw [List.range_succ, List.foldl_append]; rfl
theorem lrunK_ok (l : List Nat) : ∀ k, (lrunK l k).1 ≤ (lrunK l k).2.1 ∧ (lrunK l k).2.1 ≤ k ∧ (lrunK l k).2.2 ≤ k := by
  intro k
  induction k with
  | zero => exact ⟨Nat.le_refl _, Nat.le_refl _, Nat.le_refl _⟩
  | succ k ih =>
    rw [lrunK_succ]
    unfold lstep
    generalize lrunK l k = s at *
    have hm : (if l.getD k 0 ≠ 0 then k + 1 else s.2.2) ≤ k + 1 := by split <;> omega
    generalize (if l.getD k 0 ≠ 0 then k + 1 else s.2.2) = m at *
    split
    · exact ⟨hm, Nat.le_refl _, hm⟩
    · exact ⟨ih.1, Nat.le_succ_of_le ih.2.1, hm⟩
def nz (n : Nat) : Nat := if n = 0 then 0 else 1
theorem nz_zero (n : Nat) : nz n = 0 ↔ n = 0 := by unfold nz; split <;> simp [*]
theorem xzr_nz (l : List Nat) : xzr (l.map nz) = xzr l := by
  induction l with
  | nil => rfl
  | cons n l ih => simp only [List.map_cons, xzr, ih, nz_zero]
theorem xstep_nz (l : List Nat) : xstep (l.map nz) = xstep l := by
  funext p i
  unfold xstep
  rw [← List.map_drop, xzr_nz]
theorem xlong_nz (l : List Nat) : xlong (l.map nz) = xlong l := by unfold xlong; rw [xstep_nz, List.length_map]
theorem lstep_nz (l : List Nat) : lstep (l.map nz) = lstep l := by
  funext s r
  have e : ((l.map nz).getD r 0 ≠ 0) = (l.getD r 0 ≠ 0) := by
    rw [List.getD_eq_getElem?_getD, List.getD_eq_getElem?_getD, List.getElem?_map]
    cases h : l[r]? with
    | none => rfl
    | some n => simp only [Option.map_some, Option.getD_some, ne_eq, nz_zero]
  unfold lstep
  simp only [e]
theorem lrunK_nz (l : List Nat) (k : Nat) : lrunK (l.map nz) k = lrunK l k := by unfold lrunK; rw [lstep_nz]
def okRun (l : List Nat) : Bool := if (xlong l).2 = 0 then decide ((lrunK l 8).1 = (lrunK l 8).2.1) else decide ((lrunK l 8).1 = (xlong l).1 ∧ (lrunK l 8).2.1 = (xlong l).1 + (xlong l).2 ∧ (lrunK l 8).1 ≠ (lrunK l 8).2.1)
def b2 (b : Bool) : Nat := if b then 1 else 0
theorem okRun_all : ∀ a b c d e f g h : Bool, okRun [b2 a, b2 b, b2 c, b2 d, b2 e, b2 f, b2 g, b2 h] = true := by decide +kernel
theorem okRun_any (l : List Nat) (h8 : l.length = 8) : okRun l = true := by
  have e : okRun l = okRun (l.map nz) := by unfold okRun; rw [xlong_nz, lrunK_nz]
  rw [e]
  match l, h8 with
  | [a, b, c, d, e, f, g, h], _ =>
    have hb : ∀ n, nz n = b2 (decide (n ≠ 0)) := by intro n; unfold nz b2; by_cases h : n = 0 <;> simp [h]
    simp only [List.map_cons, List.map_nil, hb]
    exact okRun_all _ _ _ _ _ _ _ _
/-- The text of eight numbers, by the marks. -/
theorem xa6_run (l : List Nat) (h8 : l.length = 8) : ((lrunK l 8).1 = (lrunK l 8).2.1 → xa6 l = xcol l) ∧ ((lrunK l 8).1 ≠ (lrunK l 8).2.1 → xa6 l = xcol (l.take (lrunK l 8).1) ++ 58 :: 58 :: xcol (l.drop (lrunK l 8).2.1)) := by
  have h := okRun_any l h8
  unfold okRun at h
  unfold xa6
  by_cases h0 : (xlong l).2 = 0
  · rw [if_pos h0] at h ⊢
    rw [decide_eq_true_eq] at h
    exact ⟨fun _ => rfl, fun hn => absurd h hn⟩
  · rw [if_neg h0] at h ⊢
    rw [decide_eq_true_eq] at h
    obtain ⟨h1, h2, h3⟩ := h
    exact ⟨fun e => absurd e h3, fun _ => by rw [h2, h1]⟩
end Go.Proofs.YtfkfjodfjgjbkaaGreatDoor
namespace Go.Proofs
open Go.Shelf
def Tryz.lays156_ren : Go.Shelf.Ren := ⟨fun | 156 => 43 | 165 => 79 | 166 => 80 | 169 => 49 | 240 => 84 | 241 => 109 | 276 => 112 | 277 => 131 | n => n, fun | 31 => 26 | 9 => 9 | 3 => 3 | 4 => 4 | 0 => 0 | 20 => 20 | 72 => 81 | 76 => 118 | 70 => 79 | 37 => 27 | 75 => 83 | 127 => 120 | 164 => 146 | 5 => 5 | 80 => 85 | n => n, fun | n => n⟩
theorem Tryz.lays156 : Go.Proofs.Lays.n156 Tryz.prog Tryz.lays156_ren := {
  mixed := by kernel_rfl
  f156 := Tryz.func43.trans (congrArg some (by kernel_rfl))
  f165 := Tryz.func79.trans (congrArg some (by kernel_rfl))
  f166 := Tryz.func80.trans (congrArg some (by kernel_rfl))
  f169 := Tryz.func49.trans (congrArg some (by kernel_rfl))
  f240 := Tryz.func84.trans (congrArg some (by kernel_rfl))
  f241 := Tryz.func109.trans (congrArg some (by kernel_rfl))
  f276 := Tryz.func112.trans (congrArg some (by kernel_rfl))
  f277 := Tryz.func131.trans (congrArg some (by kernel_rfl))
  t0 := Tryz.underlying0
  a0 := Tryz.isAgg0
  z0 := Tryz.sizeOf0
  v0 := Tryz.zeroValue0
  t3 := Tryz.underlying3
  a3 := Tryz.isAgg3
  z3 := Tryz.sizeOf3
  v3 := Tryz.zeroValue3
  t4 := Tryz.underlying4
  a4 := Tryz.isAgg4
  z4 := Tryz.sizeOf4
  v4 := Tryz.zeroValue4
  t9 := Tryz.underlying9
  a9 := Tryz.isAgg9
  z9 := Tryz.sizeOf9
  v9 := Tryz.zeroValue9
  t20 := Tryz.underlying20
  a20 := Tryz.isAgg20
  z20 := Tryz.sizeOf20
  v20 := Tryz.zeroValue20
  t31 := Tryz.underlying26
  a31 := Tryz.isAgg26
  z31 := Tryz.sizeOf26
  v31 := Tryz.zeroValue26
  t37 := Tryz.underlying27
  a37 := Tryz.isAgg27
  z37 := Tryz.sizeOf27
  v37 := Tryz.zeroValue27
  t70 := Tryz.underlying79
  a70 := Tryz.isAgg79
  z70 := Tryz.sizeOf79
  v70 := Tryz.zeroValue79
  t72 := Tryz.underlying81
  a72 := Tryz.isAgg81
  z72 := Tryz.sizeOf81
  v72 := Tryz.zeroValue81
  t75 := Tryz.underlying83
  a75 := Tryz.isAgg83
  z75 := Tryz.sizeOf83
  v75 := Tryz.zeroValue83
  t76 := Tryz.underlying118
  a76 := Tryz.isAgg118
  z76 := Tryz.sizeOf118
  v76 := Tryz.zeroValue118
  t127 := Tryz.underlying120
  a127 := Tryz.isAgg120
  z127 := Tryz.sizeOf120
  v127 := Tryz.zeroValue120
  t164 := Tryz.underlying146
  a164 := Tryz.isAgg146
  z164 := Tryz.sizeOf146
  v164 := Tryz.zeroValue146 }
theorem Tryz.Builder_Extra_156 : Builder.Extra Tryz.prog Tryz.lays156_ren := {
  sizeBuilder := by kernel_rfl
  liesBuilder := by kernel_rfl
  t5 := Tryz.underlying5
  a5 := Tryz.isAgg5
  z5 := Tryz.sizeOf5
  v5 := Tryz.zeroValue5
  infoByte := by kernel_rfl
  cellsByte := by kernel_rfl
  sizeByte := by kernel_rfl
  neB5 := by decide }
open Go.RowKit in
theorem Tryz.strings_Join_none (a : Option Addr) (c : Nat) (sep : ByteArray) (w : World) :
    Calls Tryz.prog 43 #[.slice a 0 c, .string sep] w fun e w' => e = .returned (.string ⟨#[]⟩) ∧ w' = w := Any.strings_Join_none Tryz.lays156 Tryz.Builder_Extra_156 a c sep w
open Go.RowKit in
theorem Tryz.strings_Join (bk o c : Nat) (xs : List ByteArray) (sep : ByteArray) (w : World) (hcells : ∀ (j : Nat) x, xs[j]? = some x → w.cell? ⟨bk, o + j, none⟩ = some (.string x)) (hbk : bk < w.heap.size) (hN : xs.length ≤ 140737488355328) (hcap : xs.length ≤ c) (hlen : (Lib.join (xs.map (·.data.toList)) sep.data.toList).length ≤ 140737488355328) :
    Calls Tryz.prog 43 #[.slice (some ⟨bk, o, none⟩) xs.length c, .string sep] w fun e w' => e = .returned (.string ⟨(Lib.join (xs.map (·.data.toList)) sep.data.toList).toArray⟩) ∧ Below w.heap.size w w' := Any.strings_Join Tryz.lays156 Tryz.Builder_Extra_156 bk o c xs sep w hcells hbk hN hcap hlen
def Tryz.lays283_ren : Go.Shelf.Ren := ⟨fun | 283 => 146 | n => n, fun | 3 => 3 | 9 => 9 | 4 => 4 | n => n, fun | n => n⟩
theorem Tryz.lays283 : Go.Proofs.Lays.n283 Tryz.prog Tryz.lays283_ren := {
  mixed := by kernel_rfl
  f283 := Tryz.func146.trans (congrArg some (by kernel_rfl))
  t3 := Tryz.underlying3
  a3 := Tryz.isAgg3
  z3 := Tryz.sizeOf3
  v3 := Tryz.zeroValue3
  t4 := Tryz.underlying4
  a4 := Tryz.isAgg4
  z4 := Tryz.sizeOf4
  v4 := Tryz.zeroValue4
  t9 := Tryz.underlying9
  a9 := Tryz.isAgg9
  z9 := Tryz.sizeOf9
  v9 := Tryz.zeroValue9 }
open Go.Lib in
theorem Tryz.internal_strconv_small (i : Nat) (h : i < 100) (w : World) :
    Calls Tryz.prog 146 #[.int .i64 i] w fun e w' => e = .returned (.string ⟨(Lib.decDigits i).toArray⟩) ∧ w' = w := Any.internal_strconv_small Tryz.lays283 i h w
def Tryz.laysM284_ren : Go.Shelf.Ren := ⟨fun | 284 => 147 | 129 => 174 | 317 => 173 | 318 => 175 | n => n, fun | 53 => 139 | 3 => 3 | 212 => 192 | 0 => 0 | 4 => 4 | 46 => 56 | 5 => 5 | 9 => 9 | n => n, fun | 17 => 1 | n => n⟩
theorem Tryz.laysM284 : Go.Proofs.LaysM.n284 Tryz.prog Tryz.laysM284_ren := {
  mixed := by kernel_rfl
  f129 := Tryz.func174.trans (congrArg some (by kernel_rfl))
  f284 := Tryz.func147.trans (congrArg some (by kernel_rfl))
  f317 := Tryz.func173.trans (congrArg some (by kernel_rfl))
  f318 := Tryz.func175.trans (congrArg some (by kernel_rfl))
  t0 := Tryz.underlying0
  a0 := Tryz.isAgg0
  z0 := Tryz.sizeOf0
  v0 := Tryz.zeroValue0
  t3 := Tryz.underlying3
  a3 := Tryz.isAgg3
  z3 := Tryz.sizeOf3
  v3 := Tryz.zeroValue3
  t4 := Tryz.underlying4
  a4 := Tryz.isAgg4
  z4 := Tryz.sizeOf4
  v4 := Tryz.zeroValue4
  t5 := Tryz.underlying5
  a5 := Tryz.isAgg5
  z5 := Tryz.sizeOf5
  v5 := Tryz.zeroValue5
  t9 := Tryz.underlying9
  a9 := Tryz.isAgg9
  z9 := Tryz.sizeOf9
  v9 := Tryz.zeroValue9
  t46 := Tryz.underlying56
  a46 := Tryz.isAgg56
  z46 := Tryz.sizeOf56
  v46 := Tryz.zeroValue56
  t53 := Tryz.underlying139
  a53 := Tryz.isAgg139
  z53 := Tryz.sizeOf139
  v53 := Tryz.zeroValue139
  t212 := Tryz.underlying192
  a212 := Tryz.isAgg192
  z212 := Tryz.sizeOf192
  v212 := Tryz.zeroValue192
  g17 := by kernel_rfl
  i0 := by kernel_rfl
  i3 := by kernel_rfl
  i4 := by kernel_rfl
  i5 := by kernel_rfl
  i9 := by kernel_rfl
  i46 := by kernel_rfl
  i53 := by kernel_rfl
  i212 := by kernel_rfl
  m17 := by kernel_rfl }
open Go.Lib in
theorem Tryz.internal_strconv_numDigits (u : Nat) (h1 : 1 ≤ u) (h2 : u < 18446744073709551616) (w : World) (htab : Lib.TabIs Tryz.prog w "internal/strconv.uint64pow10" .u64 Lib.pow10Tab) :
    Calls Tryz.prog 147 #[.int .u64 u] w fun e w' => e = .returned (.int .i64 (Lib.nDigits u)) ∧ w' = w := Any.internal_strconv_numDigits Tryz.laysM284 u h1 h2 w htab
def Tryz.lays285_ren : Go.Shelf.Ren := ⟨fun | 285 => 148 | n => n, fun | 37 => 27 | 53 => 139 | 3 => 3 | 4 => 4 | 51 => 70 | 9 => 9 | 5 => 5 | 0 => 0 | n => n, fun | n => n⟩
theorem Tryz.lays285 : Go.Proofs.Lays.n285 Tryz.prog Tryz.lays285_ren := {
  mixed := by kernel_rfl
  f285 := Tryz.func148.trans (congrArg some (by kernel_rfl))
  t0 := Tryz.underlying0
  a0 := Tryz.isAgg0
  z0 := Tryz.sizeOf0
  v0 := Tryz.zeroValue0
  t3 := Tryz.underlying3
  a3 := Tryz.isAgg3
  z3 := Tryz.sizeOf3
  v3 := Tryz.zeroValue3
  t4 := Tryz.underlying4
  a4 := Tryz.isAgg4
  z4 := Tryz.sizeOf4
  v4 := Tryz.zeroValue4
  t5 := Tryz.underlying5
  a5 := Tryz.isAgg5
  z5 := Tryz.sizeOf5
  v5 := Tryz.zeroValue5
  t9 := Tryz.underlying9
  a9 := Tryz.isAgg9
  z9 := Tryz.sizeOf9
  v9 := Tryz.zeroValue9
  t37 := Tryz.underlying27
  a37 := Tryz.isAgg27
  z37 := Tryz.sizeOf27
  v37 := Tryz.zeroValue27
  t51 := Tryz.underlying70
  a51 := Tryz.isAgg70
  z51 := Tryz.sizeOf70
  v51 := Tryz.zeroValue70
  t53 := Tryz.underlying139
  a53 := Tryz.isAgg139
  z53 := Tryz.sizeOf139
  v53 := Tryz.zeroValue139 }
open Go.RowKit Go.Sort Go.Lib in
theorem Tryz.internal_strconv_formatBase10 (blk off cap : Nat) (u : Nat) (d : Array UInt8) (w : World) (hH : Holds (fun (b : UInt8) => Value.int .u8 (b.toNat : Int)) w blk off d) (hu : u < 10 ^ d.size) (hu64 : u < 18446744073709551616) (hsz : d.size < 4611686018427387904) :
    Calls Tryz.prog 148 #[.slice (some ⟨blk, off, none⟩) d.size cap, .int .u64 u] w fun e w' =>
      e = .returned (.tuple #[]) ∧ ∃ (n v' : Nat) (dk : Array UInt8), w' = (putRow (fun (b : UInt8) => Value.int .u8 (b.toNat : Int)) w blk off dk).drewN n ∧ FmtInv d.size u 0 v' dk := Any.internal_strconv_formatBase10 Tryz.lays285 blk off cap u d w hH hu hu64 hsz
def Tryz.laysM171_ren : Go.Shelf.Ren := ⟨fun | 171 => 102 | 243 => 130 | 246 => 150 | 283 => 146 | 284 => 147 | 285 => 148 | 286 => 149 | 129 => 174 | 317 => 173 | 318 => 175 | 319 => 176 | 320 => 177 | 337 => 191 | 338 => 192 | n => n, fun | 3 => 3 | 9 => 9 | 2 => 2 | 4 => 4 | 171 => 166 | 0 => 0 | 53 => 139 | 37 => 27 | 5 => 5 | 173 => 169 | 212 => 192 | 51 => 70 | 20 => 20 | 213 => 193 | 46 => 56 | 232 => 225 | 233 => 226 | n => n, fun | 17 => 1 | 18 => 6 | 19 => 7 | n => n⟩
theorem Tryz.laysM171 : Go.Proofs.LaysM.n171 Tryz.prog Tryz.laysM171_ren := {
  mixed := by kernel_rfl
  f129 := Tryz.func174.trans (congrArg some (by kernel_rfl))
  f171 := Tryz.func102.trans (congrArg some (by kernel_rfl))
  f243 := Tryz.func130.trans (congrArg some (by kernel_rfl))
  f246 := Tryz.func150.trans (congrArg some (by kernel_rfl))
  f283 := Tryz.func146.trans (congrArg some (by kernel_rfl))
  f284 := Tryz.func147.trans (congrArg some (by kernel_rfl))
  f285 := Tryz.func148.trans (congrArg some (by kernel_rfl))
  f286 := Tryz.func149.trans (congrArg some (by kernel_rfl))
  f317 := Tryz.func173.trans (congrArg some (by kernel_rfl))
  f318 := Tryz.func175.trans (congrArg some (by kernel_rfl))
  f319 := Tryz.func176.trans (congrArg some (by kernel_rfl))
  f320 := Tryz.func177.trans (congrArg some (by kernel_rfl))
  f337 := Tryz.func191.trans (congrArg some (by kernel_rfl))
  f338 := Tryz.func192.trans (congrArg some (by kernel_rfl))
  t0 := Tryz.underlying0
  a0 := Tryz.isAgg0
  z0 := Tryz.sizeOf0
  v0 := Tryz.zeroValue0
  t2 := Tryz.underlying2
  a2 := Tryz.isAgg2
  z2 := Tryz.sizeOf2
  v2 := Tryz.zeroValue2
  t3 := Tryz.underlying3
  a3 := Tryz.isAgg3
  z3 := Tryz.sizeOf3
  v3 := Tryz.zeroValue3
  t4 := Tryz.underlying4
  a4 := Tryz.isAgg4
  z4 := Tryz.sizeOf4
  v4 := Tryz.zeroValue4
  t5 := Tryz.underlying5
  a5 := Tryz.isAgg5
  z5 := Tryz.sizeOf5
  v5 := Tryz.zeroValue5
  t9 := Tryz.underlying9
  a9 := Tryz.isAgg9
  z9 := Tryz.sizeOf9
  v9 := Tryz.zeroValue9
  t20 := Tryz.underlying20
  a20 := Tryz.isAgg20
  z20 := Tryz.sizeOf20
  v20 := Tryz.zeroValue20
  t37 := Tryz.underlying27
  a37 := Tryz.isAgg27
  z37 := Tryz.sizeOf27
  v37 := Tryz.zeroValue27
  t46 := Tryz.underlying56
  a46 := Tryz.isAgg56
  z46 := Tryz.sizeOf56
  v46 := Tryz.zeroValue56
  t51 := Tryz.underlying70
  a51 := Tryz.isAgg70
  z51 := Tryz.sizeOf70
  v51 := Tryz.zeroValue70
  t53 := Tryz.underlying139
  a53 := Tryz.isAgg139
  z53 := Tryz.sizeOf139
  v53 := Tryz.zeroValue139
  t171 := Tryz.underlying166
  a171 := Tryz.isAgg166
  z171 := Tryz.sizeOf166
  v171 := Tryz.zeroValue166
  t173 := Tryz.underlying169
  a173 := Tryz.isAgg169
  z173 := Tryz.sizeOf169
  v173 := Tryz.zeroValue169
  t212 := Tryz.underlying192
  a212 := Tryz.isAgg192
  z212 := Tryz.sizeOf192
  v212 := Tryz.zeroValue192
  t213 := Tryz.underlying193
  a213 := Tryz.isAgg193
  z213 := Tryz.sizeOf193
  t232 := Tryz.underlying225
  a232 := Tryz.isAgg225
  z232 := Tryz.sizeOf225
  v232 := Tryz.zeroValue225
  t233 := Tryz.underlying226
  a233 := Tryz.isAgg226
  z233 := Tryz.sizeOf226
  v233 := Tryz.zeroValue226
  g17 := by kernel_rfl
  g18 := by kernel_rfl
  g19 := by kernel_rfl
  i0 := by kernel_rfl
  i2 := by kernel_rfl
  i3 := by kernel_rfl
  i4 := by kernel_rfl
  i5 := by kernel_rfl
  i9 := by kernel_rfl
  i20 := by kernel_rfl
  i37 := by kernel_rfl
  i46 := by kernel_rfl
  i51 := by kernel_rfl
  i53 := by kernel_rfl
  i171 := by kernel_rfl
  i173 := by kernel_rfl
  i212 := by kernel_rfl
  i232 := by kernel_rfl
  i233 := by kernel_rfl
  m17 := by kernel_rfl
  m18 := by kernel_rfl
  m19 := by kernel_rfl }
open Go.RowKit Go.Sort Go.Lib in
theorem Tryz.strconv_Itoa (n : Int) (h0 : -9223372036854775808 ≤ n) (h1 : n ≤ 9223372036854775807) (w : World) (htab : Lib.TabIs Tryz.prog w "internal/strconv.uint64pow10" .u64 Lib.pow10Tab) :
    Calls Tryz.prog 102 #[.int .i64 n] w fun e w' => e = .returned (.string ⟨(Lib.itoa n).toArray⟩) ∧ ∃ k os, w' = grow (w.drewN k) os := Any.strconv_Itoa Tryz.laysM171 n h0 h1 w htab
end Go.Proofs
namespace Go.Proofs.YtfkfjodfjgjbkaaGreatDoor
open Go.ChangeShapes Go.WideShapes Go.ChangeAt Go.RowKit Go.Sort
set_option linter.unusedVariables false
set_option linter.unusedSimpArgs false
theorem gPow : Tryz.prog.globalNamed "internal/strconv.uint64pow10" = some 1 := by kernel_rfl
theorem gSyn : Tryz.prog.globalNamed "strconv.ErrSyntax" = some 2 := by kernel_rfl
theorem gRng : Tryz.prog.globalNamed "strconv.ErrRange" = some 3 := by kernel_rfl
/-- The table of powers, and the one cell of the other table that base 16 reads. -/
def LayT (w : World) : Prop := Lib.TabIs Tryz.prog w "internal/strconv.uint64pow10" .u64 Lib.pow10Tab ∧ 7 < w.heap.size ∧ w.cell? ⟨7, 15, none⟩ = some (.int .u8 4)
/-- The two errors, and the number that searches ask. -/
def LayE (w : World) : Prop := (∃ tp p, w.var? Tryz.prog "strconv.ErrSyntax" = some #[.iface tp p]) ∧ (∃ tp p, w.var? Tryz.prog "strconv.ErrRange" = some #[.iface tp p]) ∧ 0 < w.heap.size ∧ ∃ m, w.cell? ⟨0, 0, none⟩ = some (.int .i64 m)
theorem cell_below {w w' : World} {g o : Nat} (hb : Below w.heap.size w w') (hg : g < w.heap.size) : w'.cell? ⟨g, o, none⟩ = w.cell? ⟨g, o, none⟩ := by
  unfold World.cell?
  rw [hb.block g hg]
theorem LayT.below {w w' : World} (h : LayT w) (hb : Below w.heap.size w w') : LayT w' := ⟨Joins.tab_stays gPow h.1 hb (Nat.le_refl _), Nat.lt_of_lt_of_le h.2.1 hb.size, by rw [cell_below hb h.2.1]; exact h.2.2⟩
theorem LayE.below {w w' : World} (h : LayE w) (hb : Below w.heap.size w w') : LayE w' := by
  obtain ⟨⟨tp, p, h1⟩, ⟨tq, q, h2⟩, h3, m, h4⟩ := h
  exact ⟨⟨tp, p, Joins.var_stays gSyn h1 hb (Nat.le_refl _)⟩, ⟨tq, q, Joins.var_stays gRng h2 hb (Nat.le_refl _)⟩, Nat.lt_of_lt_of_le h3 hb.size, m, by rw [cell_below hb h3]; exact h4⟩
theorem itoa_nat (n : Nat) (h1 : n < 9223372036854775808) (w : World) (hL : LayT w) :
    Calls Tryz.prog 102 #[.int .i64 n] w fun e w' => e = .returned (.string ⟨(Lib.decDigits n).toArray⟩) ∧ Hid (Below w.heap.size w w') := by
  refine (Tryz.strconv_Itoa n (by omega) (by omega) w hL.1).mono ?_
  rintro e w' ⟨rfl, k, os, rfl⟩
  rw [Lib.itoa_nonneg]
  exact ⟨rfl, Lib.below_grow _ w (Nat.le_refl _) k os⟩
/-- The new block's bytes are a row of zeros. -/
theorem holds_z (w : World) (T : TypeId) (nd : Nat) (hs : nd ≤ 24) : Holds (fun (b : UInt8) => Value.int .u8 (b.toNat : Int)) (w.alloc (.cells Lib.zeros24 T)) w.heap.size 0 (Array.replicate nd (0 : UInt8)) := fun j hj => by
  have hj' : j < nd := by simpa using hj
  refine ⟨?_, World.frozen?_alloc_new _ _ _ _⟩
  rw [World.cell?_alloc_new, Lib.zeros24_at _ (by omega), getElem!_pos _ j hj]
  simp
theorem fin_z (w : World) (o : Obj) (dk : Array UInt8) (k : Nat) : ∃ os, (putRow (fun (b : UInt8) => Value.int .u8 (b.toNat : Int)) (w.alloc o) w.heap.size 0 dk).drewN k = grow (w.drewN k) os := by
  rw [alloc_eq_grow]
  obtain ⟨os', _, e⟩ := putRow_grow_new (fun (b : UInt8) => Value.int .u8 (b.toNat : Int)) w #[o] w.heap.size 0 dk (Nat.le_refl _)
  exact ⟨os', by rw [e]; rfl⟩
set_option maxHeartbeats 6400000 in
set_option maxRecDepth 100000 in
theorem fmt10_in (u : Nat) (hu64 : u < 18446744073709551616) (w : World) (hL : LayT w) :
    Calls Tryz.prog 129 #[.int .u64 u, .int .i64 10] w fun e w' => e = .returned (.string ⟨(Lib.decDigits u).toArray⟩) ∧ Hid (Below w.heap.size w w') := by
  have HT : Hid (Lib.TabIs Tryz.prog w "internal/strconv.uint64pow10" .u64 Lib.pow10Tab) := hL.1
  clear hL
  by_cases hs : u < 100
  · have hs' : (u : Int) < 100 := by omega
    go_enter Tryz.func129, Tryz.ntmps129
    go_wp2_with fail
    refine (Tryz.internal_strconv_small u hs _).mono ?_
    rintro e w' ⟨rfl, rfl⟩
    go_wp2_with fail
    go_ret
    exact ⟨rfl, Below.refl _ _⟩
  · have hu1 : 1 ≤ u := by omega
    have hs' : ¬ (u : Int) < 100 := by omega
    have hnd20 : Lib.nDigits u ≤ 20 := by have := Lib.numDigits_eq u hu1 hu64; split at this <;> omega
    have hb3 : Lib.nDigits u ≤ 23 := by omega
    have hal : Tryz.prog.arrayLen 166 = 24 := by kernel_rfl
    have hsl1 : ∀ W, (Instr.sliceAt 166 (.pointer (some ⟨w.heap.size, 0, none⟩)) none (some (.int .i64 (Lib.nDigits u : Int))) none).run Tryz.prog W = .ok (.slice (some ⟨w.heap.size, 0, none⟩) (Lib.nDigits u) 24) W := fun W => by
      rw [run_sliceAt_array_h W 166 ⟨w.heap.size, 0, none⟩ (by simp [Program.arrayLen, Program.elem, Tryz.underlying166]) .i64 (Lib.nDigits u : Int) (by omega) (by rw [hal]; omega)]
      go_simp
    have hH0 := holds_z w 166 (Lib.nDigits u) (by omega)
    have hfmt := Tryz.internal_strconv_formatBase10 w.heap.size 0 24 u (Array.replicate (Lib.nDigits u) 0) (w.alloc (.cells Lib.zeros24 166)) hH0 (by rw [Array.size_replicate]; exact Lib.lt_pow_nDigits u) hu64 (by rw [Array.size_replicate]; omega)
    rw [Array.size_replicate] at hfmt
    have HF := Lib.hid hfmt
    have HH0 := Lib.hid hH0
    clear hH0 hal hfmt
    go_enter Tryz.func129, Tryz.ntmps129
    go_wp2_with fail
    refine (Tryz.internal_strconv_numDigits u hu1 hu64 _ (Lib.tabIs_alloc HT.out _)).mono ?_
    rintro e w' ⟨rfl, rfl⟩
    go_wp2_with fail
    refine HF.out.mono ?_
    rintro e w' ⟨rfl, k, v', dk, rfl, hF⟩
    have hcv : (convert 27 9 (.slice (some ⟨w.heap.size, 0, none⟩) (Lib.nDigits u) 24)).run Tryz.prog ((putRow (fun (b : UInt8) => Value.int .u8 (b.toNat : Int)) (w.alloc (.cells Lib.zeros24 166)) w.heap.size 0 dk).drewN k) = .ok (.string ⟨(Lib.decDigits u).toArray⟩) ((putRow (fun (b : UInt8) => Value.int .u8 (b.toNat : Int)) (w.alloc (.cells Lib.zeros24 166)) w.heap.size 0 dk).drewN k) := by
      have h := run_convert_bytes_back (P := Tryz.prog) ((putRow (fun (b : UInt8) => Value.int .u8 (b.toNat : Int)) (w.alloc (.cells Lib.zeros24 166)) w.heap.size 0 dk).drewN k) 27 9 5 ⟨w.heap.size, 0, none⟩ 24 (Lib.decDigits u) Tryz.underlying27 Tryz.underlying5 Tryz.underlying9 (fun j hj => by
        rw [Lib.row_is_numeral hF j hj, Lib.add_plain, World.cell?_drewN]
        exact cell?_putRow (fun (b : UInt8) => Value.int .u8 (b.toNat : Int)) _ w.heap.size 0 _ dk HH0.out (by rw [hF.size, Array.size_replicate]) j (by rw [hF.size]; rw [Lib.decDigits_length] at hj; exact hj))
      rw [Lib.decDigits_length] at h
      exact h
    go_wp2
    go_ret
    obtain ⟨os, eo⟩ := fin_z w (.cells Lib.zeros24 166) dk k
    refine ⟨rfl, ?_⟩
    show Below _ _ _
    rw [eo]
    exact Lib.below_grow _ w (Nat.le_refl _) k os
theorem fmt10 (u : Nat) (hu64 : u < 18446744073709551616) (w : World) (hL : LayT w) :
    Calls Tryz.prog 101 #[.int .u64 u, .int .i64 10] w fun e w' => e = .returned (.string ⟨(Lib.decDigits u).toArray⟩) ∧ Hid (Below w.heap.size w w') := by
  have K : Hid (LayT w) := hL
  go_enter Tryz.func101, Tryz.ntmps101
  go_wp2_with fail
  refine (fmt10_in u hu64 w K.out).mono ?_
  rintro e w' ⟨rfl, H⟩
  go_wp2_with fail
  go_ret
  exact ⟨rfl, H.out⟩
end Go.Proofs.YtfkfjodfjgjbkaaGreatDoor
namespace Go.Proofs.YtfkfjodfjgjbkaaGreatDoor
open Go.ChangeShapes Go.WideShapes Go.ChangeAt Go.RowKit Go.Sort
set_option linter.unusedVariables false
set_option linter.unusedSimpArgs false
theorem tz64 (w : World) (hL : LayT w) : Calls Tryz.prog 192 #[.int .u64 16] w fun e w' => e = .returned (.int .i64 4) ∧ w' = w := by
  have hc := hL.2.2
  have hA : bits .and .u64 16 (IntKind.u64.wrap (-16)) = 16 := by decide +kernel
  have hW : IntKind.u64.wrap 4573923408821661840 = 4573923408821661840 := by decide +kernel
  clear hL
  go_enter Tryz.func192, Tryz.ntmps192
  go_wp2
  go_ret
  exact ⟨rfl, rfl⟩
theorem tz16 (w : World) (hL : LayT w) : Calls Tryz.prog 177 #[.int .u64 16] w fun e w' => e = .returned (.int .i64 4) ∧ w' = w := by
  have K : Hid (LayT w) := hL
  clear hL
  go_enter Tryz.func177, Tryz.ntmps177
  go_wp2_with fail
  refine (tz64 w K.out).mono ?_
  rintro e w' ⟨rfl, rfl⟩
  go_wp2_with fail
  go_ret
  exact ⟨rfl, rfl⟩
theorem pow16 (w : World) : Calls Tryz.prog 176 #[.int .i64 16] w fun e w' => e = .returned (.bool true) ∧ w' = w := by
  go_enter Tryz.func176, Tryz.ntmps176
  go_wp2
  go_ret
  exact ⟨rfl, rfl⟩
/-- 65 cells of which the last ones are digits. -/
def fbx (ds : List Int) : List Value := List.replicate (65 - ds.length) (.int .u8 0) ++ ds.map (Value.int .u8)
theorem fbx_len (ds : List Int) (h : ds.length ≤ 65) : (fbx ds).length = 65 := by simp [fbx]; omega
theorem fbx_set (ds : List Int) (z : Int) (h : ds.length < 65) : (fbx ds).set (64 - ds.length) (.int .u8 z) = fbx (z :: ds) := by
  unfold fbx
  rw [List.set_append_left _ _ (by simp; omega)]
  rw [show 65 - ds.length = (64 - ds.length) + 1 by omega, List.replicate_succ', List.set_append_right _ _ (by simp)]
  simp [show 65 - (ds.length + 1) = 64 - ds.length by omega]
theorem fbx_at (ds : List Int) (j : Nat) (h : ds.length ≤ 65) (hj : j < ds.length) : (fbx ds)[65 - ds.length + j]? = some (.int .u8 (ds.getD j 0)) := by
  unfold fbx
  rw [List.getElem?_append_right (by simp), List.length_replicate, show 65 - ds.length + j - (65 - ds.length) = j by omega, List.getElem?_map, List.getD_eq_getElem?_getD, List.getElem?_eq_getElem hj]
  rfl
theorem fbx_new (w : World) : BlkV (w.alloc (.cells Tryz.zeroCells193 193)) w.heap.size 193 (fbx []) := by
  have e : Tryz.zeroCells193 = (fbx []).toArray := by kernel_rfl
  rw [e]
  exact heap_alloc_new _ _
theorem xd_get (d : Nat) (h : d < ({ data := #[48, 49, 50, 51, 52, 53, 54, 55, 56, 57, 97, 98, 99, 100, 101, 102, 103, 104, 105, 106, 107, 108, 109, 110, 111, 112, 113, 114, 115, 116, 117, 118, 119, 120, 121, 122] } : ByteArray).size) (h1 : d < 16) : ((({ data := #[48, 49, 50, 51, 52, 53, 54, 55, 56, 57, 97, 98, 99, 100, 101, 102, 103, 104, 105, 106, 107, 108, 109, 110, 111, 112, 113, 114, 115, 116, 117, 118, 119, 120, 121, 122] } : ByteArray)[d]'h).toNat : Int) = xhd d := by
  rcases (by omega : d = 0 ∨ d = 1 ∨ d = 2 ∨ d = 3 ∨ d = 4 ∨ d = 5 ∨ d = 6 ∨ d = 7 ∨ d = 8 ∨ d = 9 ∨ d = 10 ∨ d = 11 ∨ d = 12 ∨ d = 13 ∨ d = 14 ∨ d = 15) with rfl | rfl | rfl | rfl | rfl | rfl | rfl | rfl | rfl | rfl | rfl | rfl | rfl | rfl | rfl | rfl <;> kernel_rfl
theorem sl65 (g k : Nat) (hk : k ≤ 64) (W : World) : (Instr.sliceAt 193 (.pointer (some ⟨g, 0, none⟩)) (some (.int .i64 (k : Int))) none none).run Tryz.prog W = .ok (.slice (some ⟨g, k, none⟩) (65 - k) (65 - k)) W := by
  have hal : Tryz.prog.arrayLen 193 = 65 := by kernel_rfl
  rw [run_sliceAt_array_l W 193 ⟨g, 0, none⟩ (by simp [Program.arrayLen, Program.elem, Tryz.underlying193]) .i64 (k : Int) (by omega) (by rw [hal]; omega)]
  go_simp
  omega
theorem p16 (n v : Nat) (hv : 1 ≤ v) (h : v * 16 ^ n < 65536) : n < 4 := by
  by_cases hn : n < 4
  · exact hn
  · have h1 : (16 : Nat) ^ 4 ≤ 16 ^ n := Nat.pow_le_pow_right (by omega) (by omega)
    have h2 : 1 * 16 ^ n ≤ v * 16 ^ n := Nat.mul_le_mul_right _ hv
    omega
theorem and15u (u : Nat) (h : u < 65536) : bits .and .u64 (u : Int) 15 = ((u % 16 : Nat) : Int) := by
  have := u64_and (u : Int) 15 (by omega) (by omega) (by omega) (by omega)
  rw [this]
  simp
  have : u &&& 15 = u % 16 := Nat.and_two_pow_sub_one_eq_mod u 4
  rw [this]; omega
set_option maxRecDepth 100000 in
set_option maxHeartbeats 4000000 in
theorem bits16 (u : Nat) (hu : u < 65536) (w : World) (hL : LayT w) :
    Calls Tryz.prog 149 #[.slice none 0 0, .int .u64 u, .int .i64 16, .bool false, .bool false] w fun e w' => e = .returned (.tuple #[.slice none 0 0, .string (lb (xhex u))]) ∧ Hid (Below w.heap.size w w') := by
  have HL : Hid (LayT w) := hL
  clear hL
  have HU : Hid (u < 65536) := hu
  go_enter Tryz.func149, Tryz.ntmps149
  go_wp2_with fail
  have H0 := Lib.hid (fbx_new w)
  have HB0 : Hid (Below w.heap.size w (w.alloc (.cells Tryz.zeroCells193 193))) := (Below.refl _ _).alloc (Nat.le_refl _) _
  generalize (w.alloc (.cells Tryz.zeroCells193 193)) = wa at *
  refine (pow16 _).mono ?_
  rintro e w' ⟨rfl, hw⟩
  subst w'
  go_wp2_with fail
  refine (tz16 _ (HL.out.below HB0.out)).mono ?_
  rintro e w' ⟨rfl, hw⟩
  subst w'
  go_wp2_with fail
  go_loopw [1, 13] (fun x y wr => ∃ (v k : Nat) (ds : List Int), x = .int .u64 v ∧ y = .int .i64 ((k : Int) + 1) ∧ k + ds.length = 64 ∧ v < 65536 ∧ Hid (xhex u = xhex v ++ ds ∧ (∀ z ∈ ds, 0 ≤ z ∧ z ≤ 255)) ∧ v * 16 ^ ds.length < 65536 ∧ Hid (BlkV wr w.heap.size 193 (fbx ds) ∧ Below w.heap.size w wr)) (fun x _ _ => (intOf x).toNat)
  case atStart => exact ⟨u, 64, [], rfl, rfl, rfl, HU.out, ⟨by simp, by simp⟩, by simpa using HU.out, H0.out, HB0.out⟩
  case round =>
    obtain ⟨v, k, ds, rfl, rfl, hkd, hv, HX, hds, HW⟩ := hrel
    clear H0 HB0
    have hk : k < (fbx ds).length := by rw [fbx_len _ (by omega)]; omega
    have hc := HW.out.1.cell k hk
    have hfz := HW.out.1.frozen k
    generalize (fbx ds)[k] = c0 at hc
    by_cases h16 : 16 ≤ v
    · have h16' : (16 : Int) ≤ (v : Int) := by omega
      have hA := and15u v hv
      have hl4 := p16 ds.length v (by omega) hds
      have HZ : Hid (0 ≤ xhd (v % 16) ∧ xhd (v % 16) ≤ 255) := by show _ ∧ _; unfold xhd; split <;> omega
      have HD : Hid (xhex v = xhex (v / 16) ++ [xhd (v % 16)]) := by show _ = _; rw [xhex, dif_neg (by omega)]
      have hk64 : (k : Int) < 65 := by omega
      go_wp2_with fail
      rw [xd_get (v % 16) (by show _ < 36; omega) (by omega)]
      generalize xhd (v % 16) = z at *
      have hsh : 16 ^ (ds.length + 1) = 16 * 16 ^ ds.length := by rw [Nat.pow_succ, Nat.mul_comm]
      refine ⟨⟨v / 16, k - 1, z :: ds, by go_num, by congr 1; omega, by simp; omega, by omega, ⟨?_, ?_⟩, ?_, ?_, ?_⟩, by simp [intOf]; omega⟩
      · rw [HX.out.1, HD.out]; simp
      · intro y hy
        rcases List.mem_cons.1 hy with rfl | hy
        · exact HZ.out
        · exact HX.out.2 y hy
      · rw [List.length_cons, hsh, ← Nat.mul_assoc]
        have : v / 16 * 16 ≤ v := Nat.div_mul_le_self v 16
        exact Nat.lt_of_le_of_lt (Nat.mul_le_mul_right _ this) hds
      · have := HW.out.1.stored k (.int .u8 z)
        rw [show k = 64 - ds.length by omega, fbx_set ds z (by omega)] at this
        rw [show k = 64 - ds.length by omega]
        exact this
      · exact HW.out.2.setCell (show w.heap.size ≤ (⟨w.heap.size, k, none⟩ : Addr).block from Nat.le_refl _) _
    · have h16' : ¬ (16 : Int) ≤ (v : Int) := by omega
      have hk64 : (k : Int) < 65 := by omega
      have hsl := sl65 w.heap.size k (by omega)
      have HZ : Hid (0 ≤ xhd v ∧ xhd v ≤ 255) := by show _ ∧ _; unfold xhd; split <;> omega
      have HD : Hid (xhex v = [xhd v]) := by show _ = _; rw [xhex, dif_pos (by omega)]
      have hzz := xd_get v (by show _ < 36; omega) (by omega)
      generalize xhd v = z at *
      have hb2 : BlkV (wr.setCell ⟨w.heap.size, k, none⟩ (.int .u8 z)) w.heap.size 193 (fbx (z :: ds)) := by
        have := HW.out.1.stored k (.int .u8 z)
        rw [show k = 64 - ds.length by omega, fbx_set ds z (by omega)] at this
        rw [show k = 64 - ds.length by omega]
        exact this
      have HL2 : Hid (xhex u = z :: ds ∧ ∀ y ∈ z :: ds, 0 ≤ y ∧ y ≤ 255) := by
        refine ⟨by rw [HX.out.1, HD.out]; rfl, fun y hy => ?_⟩
        rcases List.mem_cons.1 hy with rfl | hy
        · exact HZ.out
        · exact HX.out.2 y hy
      have hcv : (convert 27 9 (.slice (some ⟨w.heap.size, k, none⟩) (65 - k) (65 - k))).run Tryz.prog (wr.setCell ⟨w.heap.size, k, none⟩ (.int .u8 z)) = .ok (.string (lb (xhex u))) (wr.setCell ⟨w.heap.size, k, none⟩ (.int .u8 z)) := by
        have h := run_convert_bytes_back (P := Tryz.prog) (wr.setCell ⟨w.heap.size, k, none⟩ (.int .u8 z)) 27 9 5 ⟨w.heap.size, k, none⟩ (65 - k) (txt (z :: ds)) Tryz.underlying27 Tryz.underlying5 Tryz.underlying9 (fun j hj => by
          rw [txt_len] at hj
          rw [Lib.add_plain]
          have hjl : k + j < (fbx (z :: ds)).length := by rw [fbx_len _ (by simp; omega)]; simp at hj; omega
          have h1 := hb2.cell (k + j) hjl
          have h2 := fbx_at (z :: ds) j (by simp; omega) hj
          rw [show 65 - (z :: ds).length + j = k + j by simp; omega, List.getElem?_eq_getElem hjl] at h2
          injection h2 with h2
          rw [h1, h2]
          have hm : (z :: ds).getD j 0 ∈ z :: ds := by rw [List.getD_eq_getElem?_getD, List.getElem?_eq_getElem hj]; exact List.getElem_mem hj
          have hbd := HL2.out.2 _ hm
          have e : (txt (z :: ds))[j]'(by rw [txt_len]; exact hj) = UInt8.ofNat ((z :: ds).getD j 0).toNat := by
            simp only [txt, List.getElem_map, List.getD_eq_getElem?_getD, List.getElem?_eq_getElem hj, Option.getD_some]
          rw [e]
          generalize (z :: ds).getD j 0 = y at hbd
          congr 2
          simp
          omega)
        rw [txt_len, show (z :: ds).length = 65 - k by simp; omega] at h
        rw [HL2.out.1]
        exact h
      have HCV := Lib.hid hcv
      have HB9 : Hid (Below w.heap.size w (wr.setCell ⟨w.heap.size, k, none⟩ (.int .u8 z))) := HW.out.2.setCell (show w.heap.size ≤ (⟨w.heap.size, k, none⟩ : Addr).block from Nat.le_refl _) _
      clear hcv hb2
      have hcv := HCV.out
      go_wp2_with fail
      go_ret2
      exact ⟨rfl, HB9.out⟩
theorem fmt16_in (u : Nat) (hu : u < 65536) (w : World) (hL : LayT w) :
    Calls Tryz.prog 129 #[.int .u64 u, .int .i64 16] w fun e w' => e = .returned (.string (lb (xhex u))) ∧ Hid (Below w.heap.size w w') := by
  have K : Hid (LayT w) := hL
  clear hL
  go_enter Tryz.func129, Tryz.ntmps129
  go_wp2_with fail
  refine (bits16 u hu w K.out).mono ?_
  rintro e w' ⟨rfl, H⟩
  go_wp2_with fail
  go_ret
  exact ⟨rfl, H.out⟩
theorem fmt16 (u : Nat) (hu : u < 65536) (w : World) (hL : LayT w) :
    Calls Tryz.prog 101 #[.int .u64 u, .int .i64 16] w fun e w' => e = .returned (.string (lb (xhex u))) ∧ Hid (Below w.heap.size w w') := by
  have K : Hid (LayT w) := hL
  clear hL
  go_enter Tryz.func101, Tryz.ntmps101
  go_wp2_with fail
  refine (fmt16_in u hu w K.out).mono ?_
  rintro e w' ⟨rfl, H⟩
  go_wp2_with fail
  go_ret
  exact ⟨rfl, H.out⟩
end Go.Proofs.YtfkfjodfjgjbkaaGreatDoor
namespace Go.Proofs.YtfkfjodfjgjbkaaGreatDoor
open Go.ChangeShapes Go.WideShapes Go.ChangeAt Go.RowKit Go.Sort
set_option linter.unusedVariables false
set_option linter.unusedSimpArgs false
def hx1 (v : Nat) : Option Nat := if 97 ≤ v ∧ v ≤ 102 then some (v - 87) else none
end Go.Proofs.YtfkfjodfjgjbkaaGreatDoor
namespace Go.Proofs.YtfkfjodfjgjbkaaGreatDoor
open Go.ChangeShapes Go.WideShapes Go.ChangeAt Go.RowKit
set_option linter.unusedVariables false
set_option linter.unusedSimpArgs false
theorem nums_lb (l : List Int) (h : ∀ z ∈ l, 0 ≤ z ∧ z ≤ 255) : nums (lb l) = l := nums_back l h
theorem lb_nums (s : ByteArray) : lb (nums s) = s := txt_nums s
/-- Bytes as digits. -/
def xhexs (l : List Int) : List Int := l.flatMap fun c => [xhd (c / 16).toNat, xhd (c % 16).toNat]
theorem xhexs_len (l : List Int) : (xhexs l).length = 2 * l.length := by
  induction l with
  | nil => rfl
  | cons c l ih =>
    show (xhd (c / 16).toNat :: xhd (c % 16).toNat :: xhexs l).length = _
    simp only [List.length_cons, ih]; omega
theorem xhd_by (v : Nat) (h : v < 16) : 48 ≤ xhd v ∧ xhd v ≤ 102 := by unfold xhd; split <;> omega
theorem xhexs_by (l : List Int) (h : ∀ c ∈ l, 0 ≤ c ∧ c ≤ 255) : ∀ c ∈ xhexs l, 48 ≤ c ∧ c ≤ 102 := by
  intro c hc
  simp only [xhexs, List.mem_flatMap] at hc
  obtain ⟨b, hb, hc⟩ := hc
  have := h b hb
  simp only [List.mem_cons, List.not_mem_nil, or_false] at hc
  rcases hc with rfl | rfl
  · exact xhd_by _ (by omega)
  · exact xhd_by _ (by omega)
/-- Has a type data of its own? -/
def xkn (t : Nat) : Bool := [1, 2, 5, 6, 12, 15, 16, 28, 33, 257].contains t
def xqw (s : ByteArray) : ByteArray := lb (xquote (nums s))
def xtw (t : Nat) (ts : List ByteArray) : List ByteArray := if t = 257 then (match ts with | [] => [] | a :: r => a :: r.map xqw) else ts.map xqw
def xnw (n : Nat) : ByteArray := lb (xdec n)
/-- The words of data. -/
def xwords (t : Nat) (d : Dat) : List ByteArray :=
  if t = 1 ∨ t = 28 then [lb ((xaddr d.raw).getD [])]
  else if xkn t = false then lb [92, 35] :: xnw d.raw.length :: (if d.raw = [] then [] else [lb (xhexs d.raw)])
  else if t = 6 then d.ns.map (fun n => (ntext n).1) ++ d.us.map xnw
  else d.us.map xnw ++ d.ns.map (fun n => (ntext n).1) ++ xtw t d.ts
/-- A word as it is read: is it quoted? -/
def xterm (s : ByteArray) : ByteArray × Bool := if (nums s).head? = some 34 ∧ 2 ≤ s.size then (lb (nums s).tail.dropLast, true) else (s, false)
theorem xterm_no (s : ByteArray) (h : (nums s).head? ≠ some 34) : xterm s = (s, false) := by
  unfold xterm; rw [if_neg (fun e => h e.1)]
theorem xquote_by (l : List Int) (h : ∀ c ∈ l, 0 ≤ c ∧ c ≤ 255) : ∀ c ∈ xquote l, 0 ≤ c ∧ c ≤ 255 := fun c hc => by have := xquote_print l h c hc; omega
theorem xdec_by (n : Nat) : ∀ c ∈ xdec n, 0 ≤ c ∧ c ≤ 255 := fun c hc => by have := xdec_digit n c hc; omega
theorem xnw_nums (n : Nat) : nums (xnw n) = xdec n := nums_lb _ (xdec_by n)
theorem xjoin_mem (k c : Int) (ps : List (List Int)) (h : c ∈ xjoin k ps) : c = k ∨ ∃ p ∈ ps, c ∈ p := by
  induction ps with
  | nil => simp [xjoin] at h
  | cons p ps ih =>
    cases ps with
    | nil => exact .inr ⟨p, by simp, h⟩
    | cons q ps =>
      simp only [xjoin, List.mem_append, List.mem_cons] at h
      rcases h with h | h | h
      · exact .inr ⟨p, by simp, h⟩
      · exact .inl h
      · rcases ih h with h | ⟨x, h1, h2⟩
        · exact .inl h
        · exact .inr ⟨x, List.mem_cons_of_mem _ h1, h2⟩
def xok (c : Int) : Prop := 46 ≤ c ∧ c ≤ 102 ∧ c ≠ 92
theorem xhex_ok (n : Nat) : ∀ c ∈ xhex n, xok c := by
  induction n using Nat.strongRecOn with
  | _ n ih =>
    rw [xhex]
    have hd : ∀ v, v < 16 → xok (xhd v) := by intro v hv; unfold xhd xok; split <;> omega
    by_cases h : n < 16
    · rw [dif_pos h]; intro c hc; simp at hc; subst hc; exact hd n h
    · rw [dif_neg h]; intro c hc
      simp only [List.mem_append, List.mem_singleton] at hc
      rcases hc with hc | rfl
      · exact ih (n / 16) (by omega) c hc
      · exact hd _ (by omega)
theorem xcol_ok (l : List Nat) : ∀ c ∈ xcol l, xok c := by
  intro c hc
  rcases xjoin_mem _ _ _ hc with rfl | ⟨p, hp, hc⟩
  · unfold xok; omega
  · obtain ⟨n, _, rfl⟩ := List.mem_map.1 hp
    exact xhex_ok n c hc
theorem xa6_ok (l : List Nat) : ∀ c ∈ xa6 l, xok c := by
  intro c hc
  unfold xa6 at hc
  split at hc
  · exact xcol_ok _ c hc
  · simp only [List.mem_append, List.mem_cons] at hc
    rcases hc with h | rfl | rfl | h
    · exact xcol_ok _ c h
    · unfold xok; omega
    · unfold xok; omega
    · exact xcol_ok _ c h
theorem xaddr_ok (b s : List Int) (h : xaddr b = some s) : ∀ c ∈ s, xok c := by
  unfold xaddr at h
  split at h
  · injection h with h; subst h
    intro c hc
    rcases xjoin_mem _ _ _ hc with rfl | ⟨p, hp, hc⟩
    · unfold xok; omega
    · obtain ⟨n, _, rfl⟩ := List.mem_map.1 hp
      have := xdec_digit _ c hc
      unfold xok; omega
  · split at h
    · injection h with h; subst h; exact xa6_ok _
    · cases h
theorem xaddr_some (b : List Int) (h : b.length = 4 ∨ b.length = 16) : ∃ s, xaddr b = some s := by
  unfold xaddr
  split
  · exact ⟨_, rfl⟩
  · split
    · exact ⟨_, rfl⟩
    · omega
theorem lb_ne (l m : List Int) (hl : ∀ z ∈ l, 0 ≤ z ∧ z ≤ 255) (hm : ∀ z ∈ m, 0 ≤ z ∧ z ≤ 255) (h : l ≠ m) : lb l ≠ lb m := by
  intro e
  apply h
  rw [← nums_lb l hl, e, nums_lb m hm]
theorem addr_term (s : List Int) (h : ∀ c ∈ s, xok c) : nums (lb s) = s ∧ xterm (lb s) = (lb s, false) ∧ lb s ≠ lb [92, 35] := by
  have hb : ∀ z ∈ s, 0 ≤ z ∧ z ≤ 255 := fun z hz => by have := h z hz; unfold xok at this; omega
  refine ⟨nums_lb s hb, xterm_no _ ?_, lb_ne _ _ hb (by decide) ?_⟩
  · rw [nums_lb s hb]
    intro e
    have := h 34 (List.mem_of_mem_head? e)
    unfold xok at this; omega
  · rintro rfl
    have := h 92 (by simp)
    unfold xok at this; omega
end Go.Proofs.YtfkfjodfjgjbkaaGreatDoor
namespace Go.Proofs.YtfkfjodfjgjbkaaGreatDoor
open Go.ChangeShapes Go.WideShapes Go.ChangeAt Go.RowKit
set_option linter.unusedVariables false
set_option linter.unusedSimpArgs false
theorem strCells_eq (s : ByteArray) : Lib.strCells s = Lib.byteCells s.data.toList := by
  simp [Lib.strCells, Lib.byteCells]
set_option maxRecDepth 100000 in
set_option maxHeartbeats 1000000 in
theorem wstr (B b : Nat) (bs : List Value) (s : ByteArray) (w : World) (h : GS B w b bs) (hB : B ≤ b) (hs0 : 0 < s.size) (hl : bs.length + s.size ≤ 140737488355328) :
    Calls Tryz.prog 80 #[.pointer (some ⟨b, 0, none⟩), .string s] w fun e w' => e = .returned (.tuple #[.int .i64 s.size, .nilIface]) ∧ Hid (GS B w' b (bs ++ Lib.byteCells s.data.toList) ∧ Below B w w') := by
  have HG : Hid (GS B w b bs) := h
  have hcl : (Lib.byteCells s.data.toList).length = s.size := by rw [Lib.byteCells_length]; rfl
  have HCL : Hid ((Lib.byteCells s.data.toList).length = s.size) := hcl
  clear h hcl
  go_enter Tryz.func80, Tryz.ntmps80
  go_wp2_with fail
  refine (bcheck_any B b bs _ HG.out hB).mono ?_
  rintro e w1 ⟨rfl, H1⟩
  obtain ⟨v, h1, h2, h4⟩ := H1.out.1
  have HB1 : Hid (Below B w w1) := H1.out.2
  have HB : Hid (BB w1 b (.pointer (some ⟨b, 0, none⟩)) v ∧ w1.ownsRow B 5 1 v bs.length bs) := ⟨h1, h2⟩
  have c1 := h1.c1
  have hlt := h1.lt
  clear h1 h2 H1 HG
  obtain ⟨i5, hi, hz0, hz1, hz2⟩ := info_parts Tryz.info5
  have HI : Hid (Tryz.prog.info? 5 = some i5 ∧ i5.zero = some (.int .u8 0) ∧ i5.size = 1 ∧ i5.bytes = 1) := ⟨hi, hz0, hz1, hz2⟩
  clear hi hz0 hz1 hz2
  go_wp2_with (at_builtin; refine Lib.wpList_append_own_string _ rfl _ _ 27 9 rfl B 5 i5 Tryz.underlying27 Tryz.underlying9 HI.out.1 HI.out.2.1 HI.out.2.2.1 HI.out.2.2.2 v bs.length bs rfl HB.out.2 s rfl (by simp only [maxLen]; omega) (by omega) (by omega) ?_; intro v' w2 hown2 hgr2 hnil; obtain ⟨ao, cc, rfl⟩ := row_shape hown2; have hbk : Hid (w2.heap[b]? = w1.heap[b]?) := (hgr2.block b hlt (fun e => h4 e.symm)); have d1 := (HB.out.1.same hbk.out).c1; have d2 := (HB.out.1.same hbk.out).fz 1; have HG2 : Hid (w1.grownBy w2 v.ownBlock ∧ w2.ownsRow B 5 1 (.slice ao (bs.length + s.size) cc) (bs.length + s.size) (bs ++ Lib.byteCells s.data.toList)) := ⟨hgr2, by rw [← strCells_eq]; exact hown2⟩; clear hown2 hgr2 hnil)
  go_ret2
  have hb2 := HB.out.1.same hbk.out
  have hrow : ∀ g, v.ownBlock = some g → B ≤ g := fun g hg => (HB.out.2.lt g hg).1
  have hbel : Below B w1 w2 := (Below.refl B w1).grown HG2.out.1 (by omega) hrow
  have hne : (Value.slice ao (bs.length + s.size) cc).ownBlock ≠ some b := by
    intro e
    obtain ⟨_, hc | ⟨g, cap, cur, hv, _, hg, _⟩⟩ := HG2.out.2
    · rw [hc.1] at e; simp [Value.ownBlock] at e
    · rw [hv] at e
      have e2 : g = b := by simpa [Value.ownBlock] using e
      rw [e2] at hg
      have hb3 : w2.heap[b]? = _ := hb2
      rw [hb3] at hg
      injection hg with hg
      injection hg with _ hg _
      exact absurd hg (by decide)
  have hn2 : bs ++ Lib.byteCells s.data.toList ≠ [] := by
    intro e
    have := congrArg List.length e
    rw [List.length_append, HCL.out, List.length_nil] at this
    omega
  refine ⟨rfl, .inr ⟨⟨.slice ao (bs.length + s.size) cc, ?_, ?_, hne⟩, hn2⟩, HB1.out.trans (hbel.setCell hB _)⟩
  · have := heap_set hb2 1 (.slice ao (bs.length + s.size) cc)
    simpa [BB] using this
  · have := row_set HG2.out.2 hne 1 (.slice ao (bs.length + s.size) cc)
    rw [List.length_append, HCL.out]
    exact this
theorem cells_append (a b : ByteArray) : Lib.byteCells (a ++ b).data.toList = Lib.byteCells a.data.toList ++ Lib.byteCells b.data.toList := by
  simp [Lib.byteCells]
theorem tb_pos (s : ByteArray) (h : 1 ≤ s.size) : 0 < (tb s).size := by
  have e : (tb s).size = (tx (nums s)).length := txt_size _
  have hl := nums_len s
  rw [e]
  cases hn : nums s with
  | nil => rw [hn] at hl; simp at hl; omega
  | cons x l =>
    have := (tx1_len x).2
    simp only [tx, List.flatMap_cons, List.length_append]
    omega
set_option maxRecDepth 100000 in
set_option maxHeartbeats 1000000 in
theorem ptext_any (a : Option Addr) (n c : Nat) (ss : List ByteArray) (w : World) (h : Nm w a n ss) : Calls Tryz.prog 100 #[.slice a n c] w fun e w' => e = .returned (.tuple #[.string (ntext ss).1, .int .i64 (ntext ss).2]) ∧ Hid (Below w.heap.size w w') := by
  have KC : Hid (Calls Tryz.prog 25 #[.slice a n c] w fun e w' => e = .returned (.int .i64 (nck ss)) ∧ w' = w) := pm_check c h
  have HN : Hid (Nm w a n ss) := h
  have hn := h.n63
  have HL : Hid (ss.length = n) := h.len
  by_cases hk : nck ss = 0
  · rw [hk] at KC
    have hsm := (nck_small hk).1
    have HLB : Hid (∀ s ∈ ss, 1 ≤ s.size) := fun s hs => (chk_ok ((nck_small hk).2 s hs)).1
    by_cases h0 : n = 0
    · have hp : ntext ss = (⟨#[46]⟩, 0) := by unfold ntext; rw [if_pos hk, if_pos (by rw [h.len]; exact h0)]
      rw [hp]
      subst h0
      clear h hk hp
      go_enter Tryz.func100, Tryz.ntmps100
      go_wp2_with fail
      refine KC.out.mono ?_
      rintro e w1 ⟨rfl, rfl⟩
      go_wp2
      go_ret2
      exact ⟨rfl, Below.refl _ _⟩
    · have hp : ntext ss = (ntxt ss, 0) := by unfold ntext; rw [if_pos hk, if_neg (by rw [h.len]; exact h0)]
      rw [hp]
      have h0' : ((n : Int) == 0) = false := by simp; omega
      have HSZ : Hid (∀ k, k ≤ ss.length → (ntxt (ss.take k)).size ≤ 1020) := fun k hk => by have := ntxt_size ss k hk; omega
      obtain ⟨R, hR⟩ : ∃ R, ntxt ss = R := ⟨_, rfl⟩
      have HRR : Hid (ntxt ss = R) := hR
      rw [hR]
      clear h hk hp hR
      have H0 : Hid (GS w.heap.size (w.alloc (.cells #[.pointer none, .slice none 0 0] 81)) w.heap.size [] ∧ Below w.heap.size w (w.alloc (.cells #[.pointer none, .slice none 0 0] 81))) := ⟨GS.fresh w, (Below.refl _ _).alloc (Nat.le_refl _) _⟩
      go_enter Tryz.func100, Tryz.ntmps100
      go_wp2_with fail
      refine KC.out.mono ?_
      rintro e w1 ⟨rfl, rfl⟩
      go_wp2_with fail
      go_loopw [18] (fun x wr => ∃ (k : Nat) (t : ByteArray), k ≤ n ∧ x = .int .i64 k ∧ t.size ≤ 1020 ∧ Hid (ntxt (ss.take k) = t) ∧ Hid (GS w1.heap.size wr w1.heap.size (Lib.byteCells t.data.toList) ∧ Below w1.heap.size w1 wr)) (fun x _ => n - (intOf x).toNat)
      case atStart => exact ⟨0, ⟨#[]⟩, Nat.zero_le _, rfl, by decide, rfl, H0⟩
      case round =>
        clear H0
        obtain ⟨k, t, hkn, rfl, htz, HT, HB⟩ := hrel
        by_cases hlt : k < n
        · have hlt' : (k : Int) < (n : Int) := by omega
          have hks : k < ss.length := by rw [HL.out]; exact hlt
          obtain ⟨b, o, rfl, hb, hc⟩ := (HN.out.below HB.out.2).rd.at k hks
          have hsz := Nat.le_trans (nsz_mem ss _ (List.getElem_mem hks)) hsm
          have HT2 : Hid (ntxt (ss.take (k + 1)) = t ++ tb ss[k] ++ ⟨#[46]⟩) := by show _ = _; rw [take_snocT ss k hks, ntxt_snoc, HT.out]
          have hz2 := HSZ.out (k + 1) (by omega)
          rw [HT2.out] at hz2
          have KT : Hid (∀ W, Calls Tryz.prog 128 #[.string ss[k]] W fun e w' => e = .returned (.string (tb ss[k])) ∧ Hid (Below W.heap.size W w')) := fun W => text_any ss[k] W (by omega)
          have htb : (tb ss[k]).size ≤ 1020 := by have := tb_size ss[k]; omega
          have htp : 0 < (tb ss[k]).size := tb_pos _ (HLB.out _ (List.getElem_mem hks))
          generalize tb ss[k] = f at *
          generalize ss[k] = s at *
          have KW1 : Hid (∀ W, GS w1.heap.size W w1.heap.size (Lib.byteCells t.data.toList) → Calls Tryz.prog 80 #[.pointer (some ⟨w1.heap.size, 0, none⟩), .string f] W fun e w' => e = .returned (.tuple #[.int .i64 f.size, .nilIface]) ∧ Hid (GS w1.heap.size w' w1.heap.size (Lib.byteCells (t ++ f).data.toList) ∧ Below w1.heap.size W w')) := fun W hW => by
            have := wstr w1.heap.size w1.heap.size _ f W hW (Nat.le_refl _) htp (by rw [Lib.byteCells_length]; have : t.data.toList.length = t.size := rfl; omega)
            rw [← cells_append] at this
            exact this
          have KW2 : Hid (∀ W, GS w1.heap.size W w1.heap.size (Lib.byteCells (t ++ f).data.toList) → Calls Tryz.prog 80 #[.pointer (some ⟨w1.heap.size, 0, none⟩), .string ⟨#[46]⟩] W fun e w' => e = .returned (.tuple #[.int .i64 1, .nilIface]) ∧ Hid (GS w1.heap.size w' w1.heap.size (Lib.byteCells (t ++ f ++ ⟨#[46]⟩).data.toList) ∧ Below w1.heap.size W w')) := fun W hW => by
            have := wstr w1.heap.size w1.heap.size _ ⟨#[46]⟩ W hW (Nat.le_refl _) (by decide) (by rw [Lib.byteCells_length]; have : (t ++ f).data.toList.length = (t ++ f).size := rfl; rw [this, ByteArray.size_append]; show _ + 1 ≤ _; omega)
            rw [← cells_append] at this
            exact this
          go_wp2_with fail
          refine (KT.out _).mono ?_
          rintro e w2 ⟨rfl, H2⟩
          have HG2 : Hid (GS w1.heap.size w2 w1.heap.size (Lib.byteCells t.data.toList) ∧ Below w1.heap.size w1 w2) := by
            refine ⟨?_, HB.out.2.trans (H2.out.mono HB.out.2.size)⟩
            rcases HB.out.1 with ⟨g1, g2⟩ | ⟨⟨v, g1, g2, g3⟩, g4⟩
            · exact .inl ⟨g1.same (H2.out.block _ g1.lt), g2⟩
            · exact .inr ⟨⟨v, g1.same (H2.out.block _ g1.lt), g2.kept (row := none) ⟨H2.out.os, H2.out.tape, H2.out.output, H2.out.size, fun k hk _ => H2.out.block k hk⟩ (by rcases hv : v.ownBlock with _ | g; exact .inl rfl; exact .inr (by simp)), g3⟩, g4⟩
          clear hc KT HB H2
          go_wp2_with fail
          refine (KW1.out _ HG2.out.1).mono ?_
          rintro e w3 ⟨rfl, H3⟩
          go_wp2_with fail
          refine (KW2.out _ H3.out.1).mono ?_
          rintro e w4 ⟨rfl, H4⟩
          go_wp2
          refine ⟨⟨k + 1, _, by omega, by go_num, hz2, HT2, H4.out.1, (HG2.out.2.trans H3.out.2).trans H4.out.2⟩, by simp [intOf]; omega⟩
        · have hge : (n : Int) ≤ (k : Int) := by omega
          have e : t = R := by rw [← HT.out, ← HRR.out, List.take_of_length_le (by rw [HL.out]; omega)]
          subst e
          go_wp2_with fail
          refine (wstring w1.heap.size w1.heap.size t.data.toList _ HB.out.1 (by have : t.data.toList.length = t.size := rfl; omega)).mono ?_
          rintro e w2 ⟨rfl, H2⟩
          go_wp2
          go_ret2
          exact ⟨rfl, HB.out.2.trans H2.out⟩
  · have hp : ntext ss = (⟨#[]⟩, nck ss) := by unfold ntext; rw [if_neg hk]
    rw [hp]
    generalize nck ss = q at *
    have hq : (q != 0) = true := bne_iff_ne.2 hk
    clear h hk hp
    go_enter Tryz.func100, Tryz.ntmps100
    go_wp2_with fail
    refine KC.out.mono ?_
    rintro e w1 ⟨rfl, rfl⟩
    go_wp2
    go_ret2
    exact ⟨rfl, Below.refl _ _⟩
end Go.Proofs.YtfkfjodfjgjbkaaGreatDoor
namespace Go.Proofs.YtfkfjodfjgjbkaaGreatDoor
open Go.ChangeShapes Go.WideShapes Go.ChangeAt Go.RowKit Go.Sort
set_option linter.unusedVariables false
set_option linter.unusedSimpArgs false
theorem new_rd2 (w : World) (a b : Int) (ha : 0 ≤ a ∧ a ≤ 255) (hb : 0 ≤ b ∧ b ≤ 255) : Rd (w.alloc (.cells #[.int .u8 a, .int .u8 b] 5)) (some ⟨w.heap.size, 0, none⟩) [a, b] := by
  refine ⟨.inr ⟨w.heap.size, 0, rfl, by simp, fun i hi => ?_⟩, ?_⟩
  · unfold World.cell?
    rw [heap_alloc_new]
    match i, hi with
    | 0, _ => rfl
    | 1, _ => rfl
  · intro z hz
    simp at hz
    rcases hz with rfl | rfl
    · exact ha
    · exact hb
theorem Own.mono {B B' : Nat} {w : World} {v : Value} {n : Nat} {zs : List Int} (h : Own B w v n zs) (hB : B' ≤ B) : Own B' w v n zs := by
  rcases h with h | ⟨g, h1, h2, h3⟩
  · exact .inl h
  · exact .inr ⟨g, h1, Nat.le_trans hB h2, h3⟩
end Go.Proofs.YtfkfjodfjgjbkaaGreatDoor
namespace Go.Proofs.YtfkfjodfjgjbkaaGreatDoor
open Go.ChangeShapes Go.WideShapes Go.ChangeAt Go.RowKit
set_option linter.unusedVariables false
set_option linter.unusedSimpArgs false
theorem own_mono {B B' : Nat} {w : World} {v : Value} {n : Nat} {zs : List Int} (h : Own B w v n zs) (hB : B' ≤ B) : Own B' w v n zs := by
  rcases h with h | ⟨g, h1, h2, h3⟩
  · exact .inl h
  · exact .inr ⟨g, h1, Nat.le_trans hB h2, h3⟩
/-- A list of bytes of one's own that is grown, over the world W3. -/
def Gr (W3 W : World) (v : Value) (m : Nat) (L : List Int) : Prop := ∃ ys, Own W3.heap.size W v m ys ∧ ys.take m = L ∧ L.length = m ∧ Below W3.heap.size W3 W
theorem Gr.nil {W3 W : World} (hb : Below W3.heap.size W3 W) : Gr W3 W (.slice none 0 0) 0 [] := ⟨[], .inl ⟨rfl, rfl, rfl⟩, rfl, rfl, hb⟩
theorem Gr.go {W3 W W' : World} {v : Value} {m : Nat} {L : List Int} (h : Gr W3 W v m L) (hb : Below W.heap.size W W') : Gr W3 W' v m L := by
  obtain ⟨ys, h1, h2, h3, h4⟩ := h
  exact ⟨ys, h1.below hb, h2, h3, h4.trans (hb.mono h4.size)⟩
theorem Gr.bel {W3 W : World} {v : Value} {m : Nat} {L : List Int} (h : Gr W3 W v m L) : Below W3.heap.size W3 W := by
  obtain ⟨ys, h1, h2, h3, h4⟩ := h
  exact h4
end Go.Proofs.YtfkfjodfjgjbkaaGreatDoor
namespace Go.Proofs.YtfkfjodfjgjbkaaGreatDoor
open Go.ChangeShapes Go.WideShapes Go.ChangeAt Go.RowKit
set_option linter.unusedVariables false
set_option linter.unusedSimpArgs false

/-- A reader's block: itself, its bytes, its place, whether it is bad. -/
def RBlk (w : World) (g : Nat) (t : Value) (k : Int) (bad : Bool) : Prop :=
  w.heap[g]? = some (.cells #[.pointer (some ⟨g, 0, none⟩), t, .int .i64 k, .bool bad] 197 (0, 0))
theorem RBlk.lt {w : World} {g : Nat} {t : Value} {k : Int} {bad : Bool} (h : RBlk w g t k bad) : g < w.heap.size := (Array.getElem?_eq_some_iff.1 h).1
theorem RBlk.c0 {w : World} {g : Nat} {t : Value} {k : Int} {bad : Bool} (h : RBlk w g t k bad) : w.cell? ⟨g, 0, none⟩ = some (.pointer (some ⟨g, 0, none⟩)) := by
  have h' : w.heap[g]? = _ := h
  simp [World.cell?, h']
theorem RBlk.c1 {w : World} {g : Nat} {t : Value} {k : Int} {bad : Bool} (h : RBlk w g t k bad) : w.cell? ⟨g, 1, none⟩ = some t := by
  have h' : w.heap[g]? = _ := h
  simp [World.cell?, h']
theorem RBlk.c2 {w : World} {g : Nat} {t : Value} {k : Int} {bad : Bool} (h : RBlk w g t k bad) : w.cell? ⟨g, 2, none⟩ = some (.int .i64 k) := by
  have h' : w.heap[g]? = _ := h
  simp [World.cell?, h']
theorem RBlk.c3 {w : World} {g : Nat} {t : Value} {k : Int} {bad : Bool} (h : RBlk w g t k bad) : w.cell? ⟨g, 3, none⟩ = some (.bool bad) := by
  have h' : w.heap[g]? = _ := h
  simp [World.cell?, h']
theorem RBlk.fz {w : World} {g : Nat} {t : Value} {k : Int} {bad : Bool} (h : RBlk w g t k bad) (i : Nat) : w.frozen? ⟨g, i, none⟩ = false := by
  have h' : w.heap[g]? = _ := h
  simp [World.frozen?, h']
theorem RBlk.same {w w' : World} {g : Nat} {t : Value} {k : Int} {bad : Bool} (h : RBlk w g t k bad) (hb : w'.heap[g]? = w.heap[g]?) : RBlk w' g t k bad := hb.trans h
theorem RBlk.at {w : World} {g : Nat} {t : Value} {k : Int} {bad : Bool} (h : RBlk w g t k bad) (k' : Int) : RBlk (w.setCell ⟨g, 2, none⟩ (.int .i64 k')) g t k' bad := heap_set h 2 _
/-- The text lies elsewhere than the reader. -/
def Off (a : Option Addr) (g : Nat) : Prop := ∀ b o, a = some ⟨b, o, none⟩ → b ≠ g
theorem Rd.grown {w w' : World} {a : Option Addr} {zs : List Int} {g : Nat} (h : Rd w a zs) (hg : w.grownBy w' (some g)) (ho : Off a g) : Rd w' a zs := by
  refine ⟨?_, h.2⟩
  rcases h.1 with h1 | ⟨b, o, rfl, h1, h2⟩
  · exact .inl h1
  · refine .inr ⟨b, o, rfl, Nat.lt_of_lt_of_le h1 hg.size, fun i hi => ?_⟩
    rw [← h2 i hi]
    exact World.cell?_of_block (w := w) (a := ⟨b, o + i, none⟩) (hg.block b h1 (fun e => ho b o rfl (Option.some.inj e)))
end Go.Proofs.YtfkfjodfjgjbkaaGreatDoor
namespace Go.Proofs.YtfkfjodfjgjbkaaGreatDoor
open Go.ChangeShapes Go.WideShapes Go.ChangeAt Go.RowKit
set_option linter.unusedVariables false
set_option linter.unusedSimpArgs false

theorem new_below (w : World) (o : Obj) : Below w.heap.size w (w.alloc o) := (Below.refl _ _).alloc (Nat.le_refl _) _

/-- A reader's state: its place, or none where it is bad. -/
def RSt (w : World) (g : Nat) (a : Option Addr) (len cap : Nat) : Option Nat → Prop
  | some k => RBlk w g (.slice a len cap) k false ∧ k ≤ len
  | none => RBlk w g (.slice none 0 0) 0 true
/-- What becomes of the state by going on over n bytes, by going to a place; the bytes that are gone over. -/
def mv (len : Nat) (st : Option Nat) (n : Int) : Option Nat := match st with
  | some k => if 0 ≤ n ∧ k + n ≤ len then some (k + n.toNat) else none
  | none => none
def tk (zs : List Int) (st : Option Nat) (n : Int) : List Int := match st with
  | some k => if 0 ≤ n ∧ k + n ≤ zs.length then (zs.drop k).take n.toNat else []
  | none => []
def pos : Option Nat → Int
  | some k => k
  | none => 0
def lft (len : Nat) : Option Nat → Int
  | some k => (len : Int) - (k : Int)
  | none => 0
theorem tk_bytes (zs : List Int) (st : Option Nat) (n : Int) (h : ∀ z ∈ zs, 0 ≤ z ∧ z ≤ 255) : ∀ z ∈ tk zs st n, 0 ≤ z ∧ z ≤ 255 := by
  unfold tk
  split
  · split
    · intro z hz; exact h z (List.mem_of_mem_drop (List.mem_of_mem_take hz))
    · simp
  · simp
theorem RSt.le {w : World} {g : Nat} {a : Option Addr} {len cap : Nat} {st : Option Nat} (h : RSt w g a len cap st) : ∀ k, st = some k → k ≤ len := by
  rintro k rfl; exact h.2
theorem RSt.lt {w : World} {g : Nat} {a : Option Addr} {len cap : Nat} {st : Option Nat} (h : RSt w g a len cap st) : g < w.heap.size := by
  cases st with
  | none => exact RBlk.lt h
  | some k => exact RBlk.lt h.1
theorem RSt.same {w w' : World} {g : Nat} {a : Option Addr} {len cap : Nat} {st : Option Nat} (h : RSt w g a len cap st) (hb : w'.heap[g]? = w.heap[g]?) : RSt w' g a len cap st := by
  cases st with
  | none => exact RBlk.same h hb
  | some k => exact ⟨RBlk.same h.1 hb, h.2⟩
theorem below_grown {w w' : World} {row : Option Nat} (h : Below w.heap.size w w') : w.grownBy w' row := ⟨h.os, h.tape, h.output, h.size, fun k hk _ => h.block k hk⟩
end Go.Proofs.YtfkfjodfjgjbkaaGreatDoor
namespace Go.Proofs.YtfkfjodfjgjbkaaGreatDoor
open Go.ChangeShapes Go.WideShapes Go.ChangeAt Go.RowKit
set_option linter.unusedVariables false
set_option linter.unusedSimpArgs false

def jm (len : Nat) (st : Option Nat) (n : Int) : Option Nat := match st with
  | some _ => if 0 ≤ n ∧ n ≤ len then some n.toNat else none
  | none => none
end Go.Proofs.YtfkfjodfjgjbkaaGreatDoor
namespace Go.Proofs.YtfkfjodfjgjbkaaGreatDoor
open Go.ChangeShapes Go.WideShapes Go.ChangeAt Go.RowKit
set_option linter.unusedVariables false
set_option linter.unusedSimpArgs false
/-- Texts written: the first k with their lengths. -/
def ptB (k : Nat) (l : List ByteArray) : List Int := nby (l.take k) ++ (l.drop k).flatMap nums
end Go.Proofs.YtfkfjodfjgjbkaaGreatDoor
namespace Go.Proofs.YtfkfjodfjgjbkaaGreatDoor
open Go.ChangeShapes Go.WideShapes Go.ChangeAt Go.RowKit
set_option linter.unusedVariables false
set_option linter.unusedSimpArgs false
/-- Bytes of one's own. -/
def WPost (L : List Int) (w : World) (e : Ending) (w' : World) : Prop := ∃ (s : Sl), e = .returned (.slice s.a s.n s.c) ∧ Hid (s.n = L.length ∧ Rd w' s.a L ∧ s.n ≤ s.c ∧ s.c ≤ 9223372036854775807 ∧ (s.a = none → s.c = 0) ∧ Below w.heap.size w w')
theorem Gr.post {w W3 w' : World} {v : Value} {m : Nat} {L : List Int} (h : Gr W3 w' v m L) (hb : Below w.heap.size w W3) : WPost L w (.returned v) w' := by
  obtain ⟨ys, h1, h2, h3, h4⟩ := h
  obtain ⟨ao, rfl, hoa⟩ := h1.addr
  have hrd := hoa.rdTake m
  rw [h2] at hrd
  have hle := hoa.le
  refine ⟨⟨ao, m, ys.length⟩, rfl, h3.symm, hrd, hle.1, by have := hle.2; simp only [maxLen] at this; exact this, fun e => hoa.nil e, hb.trans (h4.mono hb.size)⟩
theorem NRd.front {w : World} {s : Sl} {nss : List (List ByteArray)} (h : NRd w s nss) (k : Nat) (hk : k ≤ s.n) : NRd w ⟨s.a, k, s.c⟩ (nss.take k) := by
  refine ⟨?_, by rw [List.length_take, h.len]; exact Nat.min_eq_left hk, ⟨Nat.le_trans hk h.cap.1, h.cap.2⟩, h.nil⟩
  rcases h.rd with h1 | ⟨b, o, h1, h2, h3⟩
  · left; rw [h1]; simp
  · refine .inr ⟨b, o, h1, h2, fun i hi => ?_⟩
    rw [List.length_take] at hi
    obtain ⟨x, e1, e2⟩ := h3 i (by omega)
    exact ⟨x, e1, by simpa using e2⟩
end Go.Proofs.YtfkfjodfjgjbkaaGreatDoor
namespace Go.Proofs.YtfkfjodfjgjbkaaGreatDoor
open Go.ChangeShapes Go.WideShapes Go.ChangeAt Go.RowKit
set_option linter.unusedVariables false
set_option linter.unusedSimpArgs false
theorem Own.keep {B : Nat} {w w' : World} {v : Value} {n : Nat} {zs : List Int} (h : Own B w v n zs) (hb : ∀ g, B ≤ g → w'.heap[g]? = w.heap[g]?) : Own B w' v n zs := by
  rcases h with h | ⟨g, h1, h2, h3, h4⟩
  · exact .inl h
  · exact .inr ⟨g, h1, h2, h3.same (hb g h2), h4⟩
end Go.Proofs.YtfkfjodfjgjbkaaGreatDoor
namespace Go.Proofs.YtfkfjodfjgjbkaaGreatDoor
open Go.ChangeShapes Go.WideShapes Go.ChangeAt Go.RowKit
set_option linter.unusedVariables false
set_option linter.unusedSimpArgs false
/-- What stays of the world Wb: all but the blocks g and D. -/
structure Kp (g D : Nat) (Wb W : World) : Prop where
  os : W.os = Wb.os
  tape : W.tape = Wb.tape
  output : W.output = Wb.output
  size : Wb.heap.size ≤ W.heap.size
  block : ∀ j, j < Wb.heap.size → j ≠ g → j ≠ D → W.heap[j]? = Wb.heap[j]?
theorem Kp.refl (g D : Nat) (W : World) : Kp g D W W := ⟨rfl, rfl, rfl, Nat.le_refl _, fun _ _ _ _ => rfl⟩
theorem Kp.go {g D : Nat} {Wb W W' : World} (h : Kp g D Wb W) (hb : Below W.heap.size W W') : Kp g D Wb W' :=
  ⟨hb.os.trans h.os, hb.tape.trans h.tape, hb.output.trans h.output, Nat.le_trans h.size hb.size, fun j hj h1 h2 => (hb.block j (Nat.lt_of_lt_of_le hj h.size)).trans (h.block j hj h1 h2)⟩
theorem Kp.own {g D : Nat} {Wb W W' : World} {o : Option Nat} (h : Kp g D Wb W) (hg : W.grownBy W' o) (ho : ∀ j, o = some j → Wb.heap.size ≤ j) : Kp g D Wb W' :=
  ⟨hg.os.trans h.os, hg.tape.trans h.tape, hg.output.trans h.output, Nat.le_trans h.size hg.size, fun j hj h1 h2 => (hg.block j (Nat.lt_of_lt_of_le hj h.size) (fun e => by have := ho j e.symm; omega)).trans (h.block j hj h1 h2)⟩
theorem Kp.rd {g D : Nat} {Wb W W' : World} (h : Kp g D Wb W) (hg : W.grownBy W' (some g)) : Kp g D Wb W' :=
  ⟨hg.os.trans h.os, hg.tape.trans h.tape, hg.output.trans h.output, Nat.le_trans h.size hg.size, fun j hj h1 h2 => (hg.block j (Nat.lt_of_lt_of_le hj h.size) (fun e => h1 (Option.some.inj e))).trans (h.block j hj h1 h2)⟩
theorem Kp.set {g D : Nat} {Wb W : World} (h : Kp g D Wb W) (i : Nat) (v : Value) : Kp g D Wb (W.setCell ⟨D, i, none⟩ v) :=
  ⟨h.os, h.tape, h.output, by simp [World.setCell]; exact h.size, fun j hj h1 h2 => (Below.heap_setCell _ _ _ j h2).trans (h.block j hj h1 h2)⟩
theorem Kp.below {g D : Nat} {w Wb W : World} {B : Nat} (h : Kp g D Wb W) (hb : Below B w Wb) (hB : B ≤ Wb.heap.size) (h1 : B ≤ g) (h2 : B ≤ D) : Below B w W :=
  ⟨h.os.trans hb.os, h.tape.trans hb.tape, h.output.trans hb.output, Nat.le_trans hb.size h.size, fun j hj => (h.block j (by omega) (by omega) (by omega)).trans (hb.block j hj)⟩
theorem Kp.trans {g D : Nat} {Wa Wb W : World} (h : Kp g D Wa Wb) (h' : Kp g D Wb W) : Kp g D Wa W :=
  ⟨h'.os.trans h.os, h'.tape.trans h.tape, h'.output.trans h.output, Nat.le_trans h.size h'.size, fun j hj h1 h2 => (h'.block j (Nat.lt_of_lt_of_le hj h.size) h1 h2).trans (h.block j hj h1 h2)⟩
theorem RdV.of_blocks {w w' : World} {a : Option Addr} {xs : List Value} (h : RdV w a xs) (hs : w.heap.size ≤ w'.heap.size) (hb : ∀ b o, a = some ⟨b, o, none⟩ → w'.heap[b]? = w.heap[b]?) : RdV w' a xs := by
  rcases h with h | ⟨b, o, h1, h2, h3⟩
  · exact .inl h
  · refine .inr ⟨b, o, h1, Nat.lt_of_lt_of_le h2 hs, fun i hi => ?_⟩
    rw [← h3 i hi]
    exact World.cell?_of_block (hb b o h1)
theorem TRd.of_blocks {w w' : World} {s : Sl} {ss : List ByteArray} (h : TRd w s ss) (hs : w.heap.size ≤ w'.heap.size) (hb : ∀ b o, s.a = some ⟨b, o, none⟩ → w'.heap[b]? = w.heap[b]?) : TRd w' s ss :=
  ⟨RdV.of_blocks h.rd hs hb, h.len, h.cap, h.nil, h.z63⟩
/-- Data's box. -/
def DBlk (w : World) (D : Nat) (x : DA) : Prop := w.heap[D]? = some (.cells #[.slice x.p1.a x.p1.n x.p1.c, .slice x.p2.a x.p2.n x.p2.c, .slice x.p3.a x.p3.n x.p3.c, .slice x.p4.a x.p4.n x.p4.c] 29 (0, 0))
theorem DBlk.lt {w : World} {D : Nat} {x : DA} (h : DBlk w D x) : D < w.heap.size := (Array.getElem?_eq_some_iff.1 h).1
theorem DBlk.same {w w' : World} {D : Nat} {x : DA} (h : DBlk w D x) (hb : w'.heap[D]? = w.heap[D]?) : DBlk w' D x := hb.trans h
theorem DBlk.box {w : World} {D : Nat} {x : DA} (h : DBlk w D x) : DBox w D x := by
  have h' : w.heap[D]? = _ := h
  refine ⟨?_, ?_, ?_, ?_, h.lt⟩ <;> simp [World.cell?, h']
theorem DBlk.fz {w : World} {D : Nat} {x : DA} (h : DBlk w D x) (i : Nat) : w.frozen? ⟨D, i, none⟩ = false := by
  have h' : w.heap[D]? = _ := h
  simp [World.frozen?, h']
theorem DBlk.set0 {w : World} {D : Nat} {x : DA} (h : DBlk w D x) (s : Sl) : DBlk (w.setCell ⟨D, 0, none⟩ (.slice s.a s.n s.c)) D ⟨s, x.p2, x.p3, x.p4⟩ := (heap_set h 0 _).trans (by simp)
theorem DBlk.set3 {w : World} {D : Nat} {x : DA} (h : DBlk w D x) (s : Sl) : DBlk (w.setCell ⟨D, 3, none⟩ (.slice s.a s.n s.c)) D ⟨x.p1, x.p2, x.p3, s⟩ := (heap_set h 3 _).trans (by simp)
/-- A name of one's own. -/
def Own1 (B : Nat) (w : World) (s : Sl) (nm : List ByteArray) : Prop := ∃ ys, OwnT B w (.slice s.a s.n s.c) nm.length ys 1000000000000 ∧ ys.take nm.length = nm
theorem Own1.keep {B : Nat} {w w' : World} {s : Sl} {nm : List ByteArray} (h : Own1 B w s nm) (hb : ∀ j, B ≤ j → j < w.heap.size → (∃ zs, BlkV w j 9 zs) → w'.heap[j]? = w.heap[j]?) : Own1 B w' s nm := by
  obtain ⟨ys, ⟨h1, h2⟩, h3⟩ := h
  refine ⟨ys, ⟨?_, h2⟩, h3⟩
  rcases h1 with h1 | ⟨g, e, hg, hblk, hn⟩
  · exact .inl h1
  · exact .inr ⟨g, e, hg, hblk.same (hb g hg hblk.lt ⟨_, hblk⟩), hn⟩
theorem Own1.rd {B : Nat} {w : World} {s : Sl} {nm : List ByteArray} (h : Own1 B w s nm) : TRd w s nm := by
  obtain ⟨ys, h1, h3⟩ := h
  obtain ⟨ao, e, hnil⟩ := h1.shape
  have hle := h1.le
  obtain ⟨sa, sn, sc⟩ := s
  simp only at e h1
  injection e with e1 e2 e3
  subst e1 e2 e3
  have hrd := h1.rd nm.length
  rw [h3] at hrd
  refine ⟨hrd, rfl, ⟨hle.1, by have := hle.2; simp only [maxLen] at this; exact this⟩, hnil, fun x hx => ?_⟩
  have : x ∈ ys := by rw [← h3] at hx; exact List.mem_of_mem_take hx
  have := h1.2 x this
  omega
/-- A list of names of one's own, from the block B on. -/
def OwnN (B : Nat) (w : World) (v : Value) (nss : List (List ByteArray)) : Prop :=
  ∃ xs, OwnV B w 45 v nss.length xs ∧ ∀ i (hi : i < nss.length), ∃ s : Sl, xs[i]? = some (.slice s.a s.n s.c) ∧ Own1 B w s nss[i]
theorem OwnN.nil (B : Nat) (w : World) : OwnN B w (.slice none 0 0) [] := ⟨[], OwnV.nil B w 45, fun i hi => absurd hi (by simp)⟩
theorem OwnN.keep {B : Nat} {w w' : World} {v : Value} {nss : List (List ByteArray)} (h : OwnN B w v nss) (hb : ∀ j, B ≤ j → j < w.heap.size → w'.heap[j]? = w.heap[j]?) : OwnN B w' v nss := by
  obtain ⟨xs, h1, h2⟩ := h
  refine ⟨xs, h1.keep (fun j e hj => hb j (h1.lt j e) hj), fun i hi => ?_⟩
  obtain ⟨s, e1, e2⟩ := h2 i hi
  exact ⟨s, e1, e2.keep (fun j h1 h2 _ => hb j h1 h2)⟩
theorem OwnN.shape {B : Nat} {w : World} {v : Value} {nss : List (List ByteArray)} (h : OwnN B w v nss) : ∃ s : Sl, v = .slice s.a s.n s.c := by
  obtain ⟨xs, h1, _⟩ := h
  obtain ⟨ao, rfl, _⟩ := h1.shape
  exact ⟨⟨ao, nss.length, xs.length⟩, rfl⟩
theorem OwnN.rd {B : Nat} {w : World} {s : Sl} {nss : List (List ByteArray)} (h : OwnN B w (.slice s.a s.n s.c) nss) : NRd w s nss := by
  obtain ⟨a, n, c⟩ := s
  obtain ⟨xs, h1, h2⟩ := h
  rcases h1 with ⟨e, e0, rfl⟩ | ⟨g, e, hg, hblk, hn, hm⟩
  · injection e with e1 e2 e3
    simp only at e1 e2 e3
    subst e1 e2 e3
    exact ⟨.inl (List.eq_nil_of_length_eq_zero e0), e0, ⟨Nat.le_refl _, Nat.zero_le _⟩, fun _ => rfl⟩
  · injection e with e1 e2 e3
    simp only at e1 e2 e3
    subst e1 e2 e3
    refine ⟨.inr ⟨g, 0, rfl, hblk.lt, fun i hi => ?_⟩, rfl, ⟨hn, by simp only [maxLen] at hm; exact hm⟩, by simp⟩
    obtain ⟨s, e1, e2⟩ := h2 i hi
    refine ⟨s, ?_, e2.rd⟩
    rw [Nat.zero_add, hblk.cell i (by omega)]
    rw [List.getElem?_eq_getElem (by omega)] at e1
    exact e1
theorem tyNs : ElemTy Tryz.prog 24 45 (.slice none 0 0) 24 := ⟨Tryz.underlying24, by kernel_rfl, rfl⟩
end Go.Proofs.YtfkfjodfjgjbkaaGreatDoor
namespace Go.Proofs.YtfkfjodfjgjbkaaGreatDoor
open Go.ChangeShapes Go.WideShapes Go.ChangeAt Go.RowKit
set_option linter.unusedVariables false
set_option linter.unusedSimpArgs false
/-- No data. -/
abbrev nilDA : DA := ⟨⟨none, 0, 0⟩, ⟨none, 0, 0⟩, ⟨none, 0, 0⟩, ⟨none, 0, 0⟩⟩
theorem DBlk.four {w : World} {R : Nat} {y : DA} (h : DBlk w R y) (x : DA) : DBlk (((((w.setCell ⟨R, 0, none⟩ (.slice x.p1.a x.p1.n x.p1.c)).setCell ⟨R, 1, none⟩ (.slice x.p2.a x.p2.n x.p2.c)).setCell ⟨R, 2, none⟩ (.slice x.p3.a x.p3.n x.p3.c)).setCell ⟨R, 3, none⟩ (.slice x.p4.a x.p4.n x.p4.c)).drew) R x :=
  (heap_set (heap_set (heap_set (heap_set h 0 _) 1 _) 2 _) 3 _).trans (by simp)
/-- The boxes that a guess begins with. -/
structure GB (S R g D : Nat) (s : Shp) (w Wb : World) : Prop where
  sb : SBox Wb S s
  rb : DBlk Wb R nilDA
  ne : S ≠ g ∧ S ≠ D ∧ R ≠ g ∧ R ≠ D ∧ S ≠ R
  bel : Below w.heap.size w Wb
  low : w.heap.size ≤ S ∧ w.heap.size ≤ R ∧ w.heap.size ≤ g ∧ w.heap.size ≤ D
theorem GB.below {S R g D : Nat} {s : Shp} {w Wb W : World} (h : GB S R g D s w Wb) (k : Kp g D Wb W) : Below w.heap.size w W := k.below h.bel h.bel.size h.low.2.2.1 h.low.2.2.2
/-- What is read stays, where the result's box is written. -/
theorem GB.store {S R g D : Nat} {s : Shp} {w Wb W : World} (h : GB S R g D s w Wb) (k : Kp g D Wb W) (v0 v1 v2 v3 : Value) : Below w.heap.size w ((((W.setCell ⟨R, 0, none⟩ v0).setCell ⟨R, 1, none⟩ v1).setCell ⟨R, 2, none⟩ v2).setCell ⟨R, 3, none⟩ v3) :=
  ((((h.below k).setCell (p := ⟨R, 0, none⟩) h.low.2.1 v0).setCell (p := ⟨R, 1, none⟩) h.low.2.1 v1).setCell (p := ⟨R, 2, none⟩) h.low.2.1 v2).setCell (p := ⟨R, 3, none⟩) h.low.2.1 v3
theorem own_brd {B : Nat} {w : World} {s : Sl} {zs ys : List Int} (h : Own B w (.slice s.a s.n s.c) zs.length ys) (ht : ys.take zs.length = zs) : BRd w s zs := by
  obtain ⟨sa, sn, sc⟩ := s
  obtain ⟨ao, e, hoa⟩ := h.addr
  injection e with e1 e2 e3
  simp only at e1 e2 e3
  subst e1 e2 e3
  have hrd := hoa.rdTake zs.length
  rw [ht] at hrd
  refine ⟨hrd, rfl, ?_, ?_⟩
  · rcases h with ⟨_, h0, h1⟩ | ⟨g, _, _, _, h1, h2⟩
    · subst h1; simp [h0]
    · exact ⟨h1, by simp only [maxLen] at h2; exact h2⟩
  · intro hn
    rcases h with ⟨_, _, h1⟩ | ⟨g, e, _⟩
    · subst h1; rfl
    · simp only at hn e; rw [hn] at e; cases e
/-- Numbers of one's own. -/
def UOwn (B : Nat) (w : World) (s : Sl) (us : List Nat) : Prop := ∃ xs, OwnV B w 70 (.slice s.a s.n s.c) us.length xs ∧ xs.take us.length = uv us ∧ (∀ u ∈ us, u ≤ 4294967295) ∧ ∀ v ∈ xs, ∃ z : Int, v = .int .u32 z ∧ 0 ≤ z ∧ z ≤ 4294967295
/-- Bytes of one's own. -/
def BOwn (B : Nat) (w : World) (s : Sl) (zs : List Int) : Prop := ∃ ys, Own B w (.slice s.a s.n s.c) zs.length ys ∧ ys.take zs.length = zs
/-- Data of one's own. -/
def DOwn (B : Nat) (w : World) (x : DA) (d : Dat) : Prop := OwnN B w (.slice x.p1.a x.p1.n x.p1.c) d.ns ∧ UOwn B w x.p2 d.us ∧ Own1 B w x.p3 d.ts ∧ BOwn B w x.p4 d.raw
theorem UOwn.keep {B : Nat} {w w' : World} {s : Sl} {us : List Nat} (h : UOwn B w s us) (hb : ∀ j, B ≤ j → j < w.heap.size → w'.heap[j]? = w.heap[j]?) : UOwn B w' s us := by
  obtain ⟨xs, h1, h2⟩ := h
  exact ⟨xs, h1.keep (fun j e hj => hb j (h1.lt j e) hj), h2⟩
theorem own_keep2 {B : Nat} {w w' : World} {v : Value} {n : Nat} {zs : List Int} (h : Own B w v n zs) (hb : ∀ j, B ≤ j → j < w.heap.size → w'.heap[j]? = w.heap[j]?) : Own B w' v n zs := by
  rcases h with h | ⟨g, h1, h2, h3, h4⟩
  · exact .inl h
  · exact .inr ⟨g, h1, h2, h3.same (hb g h2 h3.lt), h4⟩
theorem BOwn.keep {B : Nat} {w w' : World} {s : Sl} {zs : List Int} (h : BOwn B w s zs) (hb : ∀ j, B ≤ j → j < w.heap.size → w'.heap[j]? = w.heap[j]?) : BOwn B w' s zs := by
  obtain ⟨ys, h1, h2⟩ := h
  exact ⟨ys, own_keep2 h1 hb, h2⟩
theorem DOwn.keep {B : Nat} {w w' : World} {x : DA} {d : Dat} (h : DOwn B w x d) (hb : ∀ j, B ≤ j → j < w.heap.size → w'.heap[j]? = w.heap[j]?) : DOwn B w' x d :=
  ⟨h.1.keep hb, h.2.1.keep hb, h.2.2.1.keep (fun j h1 h2 _ => hb j h1 h2), h.2.2.2.keep hb⟩
theorem UOwn.rd {B : Nat} {w : World} {s : Sl} {us : List Nat} (h : UOwn B w s us) : URd w s us := by
  obtain ⟨xs, h1, h2, h3⟩ := h
  obtain ⟨sa, sn, sc⟩ := s
  obtain ⟨ao, e, hnil⟩ := h1.shape
  have hle := h1.le
  injection e with e1 e2 e3
  simp only at e1 e2 e3
  subst e1 e2 e3
  have hrd := h1.rd us.length
  rw [h2] at hrd
  exact ⟨hrd, rfl, ⟨hle.1, by have := hle.2; simp only [maxLen] at this; exact this⟩, hnil, h3.1⟩
theorem BOwn.rd {B : Nat} {w : World} {s : Sl} {zs : List Int} (h : BOwn B w s zs) : BRd w s zs := by
  obtain ⟨ys, h1, h2⟩ := h
  exact own_brd h1 h2
theorem DOwn.rd {B : Nat} {w : World} {x : DA} {d : Dat} (h : DOwn B w x d) : DRd w x d := ⟨h.1.rd, h.2.1.rd, h.2.2.1.rd, h.2.2.2.rd⟩
end Go.Proofs.YtfkfjodfjgjbkaaGreatDoor
namespace Go.Proofs.YtfkfjodfjgjbkaaGreatDoor
open Go.ChangeShapes Go.WideShapes Go.ChangeAt Go.RowKit
set_option linter.unusedVariables false
set_option linter.unusedSimpArgs false
theorem step_append_row {P : Program} {t e : TypeId} {z : Value} {bt : Nat} (T : ElemTy P t e z bt) {w : World} {ops : Array Oper} {o : Oper} {a : Act} {K : Act → World → Prop} {Q : Exit → Act → World → Prop} {E : Prop} (hgd : o.guard = none) (s x : Operand) (tx : TypeId)
    (ho : o.op = .call { callee := .builtin .append, args := #[s, x], argTypes := #[t, tx] }) (B : Nat) (v : Value) (n : Nat) (xs : List Value) (hs : a.eval s = v) (hown : OwnV B w e v n xs)
    (xv : Value) (m : Nat) (news : List Value) (hx : a.eval x = xv) (hsrc : Src P 1 tx xv m news w) (hb : (n + m) * bt ≤ 140737488355328) (h63 : n + m ≤ maxLen) (hB : B ≤ w.heap.size)
    (h : ∀ v' w' xs', Hid (OwnV B w' e v' (n + m) xs') → Hid (xs'.take (n + m) = xs.take n ++ news) → Hid (w.grownBy w' v.ownBlock) → Hid (∀ Q : Value → Prop, Q z → (∀ u ∈ xs, Q u) → (∀ u ∈ news, Q u) → ∀ u ∈ xs', Q u) → K (a.put o.dst v') w') :
    if Region.wanted o (yielded ops a.tmps) = true then Oper.wp P o a w K Q else E := by
  have hw : Region.wanted o (yielded ops a.tmps) = true := by simp [Region.wanted, hgd]
  rw [if_pos hw]
  obtain ⟨v', w', xs', hrun, h2, h3, h4, h5⟩ := run_append_row T w B tx o.type v n xs hown xv m news hsrc hb h63 hB
  unfold Oper.wp execOp
  simp only [ho, resolve, invoke, builtin, Sem.run_bind, Sem.run_pure, Result.andThen_ok, List.map_toArray, List.map_cons, List.map_nil, hs, hx, hrun]
  exact h v' w' xs' h2 h3 h4 h5.1
theorem tyU : ElemTy Tryz.prog 25 70 (.int .u32 0) 4 := ⟨Tryz.underlying25, by kernel_rfl, rfl⟩
end Go.Proofs.YtfkfjodfjgjbkaaGreatDoor
namespace Go.Proofs.YtfkfjodfjgjbkaaGreatDoor
open Go.ChangeShapes Go.WideShapes Go.ChangeAt Go.RowKit
set_option linter.unusedVariables false
set_option linter.unusedSimpArgs false
/-- A reader over bytes, and what stays behind its making (the world Wb). -/
structure RS (Wb W : World) (g : Nat) (a : Option Addr) (len cap : Nat) (zs : List Int) (st : Option Nat) : Prop where
  rst : RSt W g a len cap st
  kp : Wb.grownBy W (some g)
  rd : Rd Wb a zs
  hl : zs.length = len
  hc : len ≤ cap
  hd : a = none → cap = 0
  off : Off a g
  gl : g < Wb.heap.size
  hm : len ≤ 65535
theorem grown2 {w1 wr w2 : World} {gr : Nat} (h1 : w1.grownBy wr (some gr)) (h2 : wr.grownBy w2 (some gr)) : w1.grownBy w2 (some gr) :=
  ⟨h2.os.trans h1.os, h2.tape.trans h1.tape, h2.output.trans h1.output, Nat.le_trans h1.size h2.size, fun k hk hne => (h2.block k (Nat.lt_of_lt_of_le hk h1.size) hne).trans (h1.block k hk hne)⟩
theorem RS.to {Wb W W' : World} {g : Nat} {a : Option Addr} {len cap : Nat} {zs : List Int} {st st' : Option Nat} (h : RS Wb W g a len cap zs st) (h1 : RSt W' g a len cap st') (h2 : W.grownBy W' (some g)) : RS Wb W' g a len cap zs st' :=
  ⟨h1, grown2 h.kp h2, h.rd, h.hl, h.hc, h.hd, h.off, h.gl, h.hm⟩
theorem RS.app {Wb W W' : World} {g : Nat} {a : Option Addr} {len cap : Nat} {zs : List Int} {st : Option Nat} {o : Option Nat} (h : RS Wb W g a len cap zs st) (h2 : W.grownBy W' o) (ho : ∀ j, o = some j → Wb.heap.size ≤ j) : RS Wb W' g a len cap zs st := by
  have hgW : g < W.heap.size := Nat.lt_of_lt_of_le h.gl h.kp.size
  refine ⟨h.rst.same (h2.block g hgW (fun e => by have := ho g e.symm; have := h.gl; omega)), ?_, h.rd, h.hl, h.hc, h.hd, h.off, h.gl, h.hm⟩
  exact ⟨h2.os.trans h.kp.os, h2.tape.trans h.kp.tape, h2.output.trans h.kp.output, Nat.le_trans h.kp.size h2.size, fun k hk hne => (h2.block k (Nat.lt_of_lt_of_le hk h.kp.size) (fun e => by have := ho k e.symm; omega)).trans (h.kp.block k hk hne)⟩
theorem RS.below {Wb W W' : World} {g : Nat} {a : Option Addr} {len cap : Nat} {zs : List Int} {st : Option Nat} (h : RS Wb W g a len cap zs st) (h2 : Below W.heap.size W W') : RS Wb W' g a len cap zs st := h.app (o := none) (below_grown h2) (by rintro j ⟨⟩)
theorem UOwn.kept {B g : Nat} {w w' : World} {s : Sl} {us : List Nat} (h : UOwn B w s us) (hg : w.grownBy w' (some g)) (hB : g < B) : UOwn B w' s us := h.keep fun j h1 h2 => hg.block j h2 (fun e => by cases e; omega)
theorem OwnN.kept {B g : Nat} {w w' : World} {v : Value} {nss : List (List ByteArray)} (h : OwnN B w v nss) (hg : w.grownBy w' (some g)) (hB : g < B) : OwnN B w' v nss := h.keep fun j h1 h2 => hg.block j h2 (fun e => by cases e; omega)
theorem OwnN.stays {B : Nat} {w w' : World} {v : Value} {nss : List (List ByteArray)} (h : OwnN B w v nss) (hb : Below w.heap.size w w') : OwnN B w' v nss := h.keep fun j _ h2 => hb.block j h2
theorem UOwn.stays {B : Nat} {w w' : World} {s : Sl} {us : List Nat} (h : UOwn B w s us) (hb : Below w.heap.size w w') : UOwn B w' s us := h.keep fun j _ h2 => hb.block j h2
theorem Own1.stays {B : Nat} {w w' : World} {s : Sl} {nm : List ByteArray} (h : Own1 B w s nm) (hb : Below w.heap.size w w') : Own1 B w' s nm := h.keep fun j _ h2 _ => hb.block j h2
theorem Own1.kept {B g : Nat} {w w' : World} {s : Sl} {nm : List ByteArray} (h : Own1 B w s nm) (hg : w.grownBy w' (some g)) (hB : g < B) : Own1 B w' s nm := h.keep fun j h1 h2 _ => hg.block j h2 (fun e => by cases e; omega)
theorem BOwn.stays {B : Nat} {w w' : World} {s : Sl} {zs : List Int} (h : BOwn B w s zs) (hb : Below w.heap.size w w') : BOwn B w' s zs := h.keep fun j _ h2 => hb.block j h2
theorem BOwn.kept {B g : Nat} {w w' : World} {s : Sl} {zs : List Int} (h : BOwn B w s zs) (hg : w.grownBy w' (some g)) (hB : g < B) : BOwn B w' s zs := h.keep fun j h1 h2 => hg.block j h2 (fun e => by cases e; omega)
/-- A number read. -/
def pnu (zs : List Int) (st : Option Nat) (wd : Nat) : Nat := (val (tk zs st (wd : Int))).toNat
/-- Numbers read one behind the other. -/
def pnus (zs : List Int) (len : Nat) : Option Nat → Nat → Nat → List Nat × Option Nat
  | st, _, 0 => ([], st)
  | st, wd, k + 1 => let r := pnus zs len st wd k; (r.1 ++ [pnu zs r.2 wd], mv len r.2 (wd : Int))
end Go.Proofs.YtfkfjodfjgjbkaaGreatDoor
namespace Go.Proofs.YtfkfjodfjgjbkaaGreatDoor
open Go.ChangeShapes Go.WideShapes Go.ChangeAt Go.RowKit
set_option linter.unusedVariables false
set_option linter.unusedSimpArgs false
/-- A name read, and where the reader is then. -/
def pnm1 (zs : List Int) (len : Nat) (st : Option Nat) : List ByteArray × Option Nat := ((nread zs (pos st)).1, jm len st (if (nread zs (pos st)).2.2 = 0 then (nread zs (pos st)).2.1 else -1))
theorem one_n (w : World) (s : Sl) : RdV (w.alloc (.cells #[.slice s.a s.n s.c] 45)) (some ⟨w.heap.size, 0, none⟩) [.slice s.a s.n s.c] := by
  refine .inr ⟨w.heap.size, 0, rfl, by simp, fun i hi => ?_⟩
  have : i = 0 := by simp at hi; omega
  subst this
  unfold World.cell?
  rw [heap_alloc_new]
  rfl
end Go.Proofs.YtfkfjodfjgjbkaaGreatDoor
namespace Go.Proofs.YtfkfjodfjgjbkaaGreatDoor
open Go.ChangeShapes Go.WideShapes Go.ChangeAt Go.RowKit
set_option linter.unusedVariables false
set_option linter.unusedSimpArgs false
theorem FBox.grown {w w' : World} {b g : Nat} {f : Fs} (h : FBox w b f) (hg : w.grownBy w' (some g)) (hne : g < b) : FBox w' b f := by
  obtain ⟨h0, h1, h2, h3, h4, h5, h6, h7, hl⟩ := h
  have hb : w'.heap[b]? = w.heap[b]? := hg.block b hl (fun e => by cases e; omega)
  exact ⟨(World.cell?_of_block hb).trans h0, (World.cell?_of_block hb).trans h1, (World.cell?_of_block hb).trans h2, (World.cell?_of_block hb).trans h3, (World.cell?_of_block hb).trans h4, (World.cell?_of_block hb).trans h5, (World.cell?_of_block hb).trans h6, (World.cell?_of_block hb).trans h7, Nat.lt_of_lt_of_le hl hg.size⟩
theorem FBox.app {w w' : World} {b : Nat} {f : Fs} {o : Option Nat} (h : FBox w b f) (hg : w.grownBy w' o) (hne : ∀ j, o = some j → b < j) : FBox w' b f := by
  obtain ⟨h0, h1, h2, h3, h4, h5, h6, h7, hl⟩ := h
  have hb : w'.heap[b]? = w.heap[b]? := hg.block b hl (fun e => by have := hne b e.symm; omega)
  exact ⟨(World.cell?_of_block hb).trans h0, (World.cell?_of_block hb).trans h1, (World.cell?_of_block hb).trans h2, (World.cell?_of_block hb).trans h3, (World.cell?_of_block hb).trans h4, (World.cell?_of_block hb).trans h5, (World.cell?_of_block hb).trans h6, (World.cell?_of_block hb).trans h7, Nat.lt_of_lt_of_le hl hg.size⟩
theorem Own1.mono {B B' : Nat} {w : World} {s : Sl} {nm : List ByteArray} (h : Own1 B w s nm) (hB : B' ≤ B) : Own1 B' w s nm := by
  obtain ⟨ys, h1, h2⟩ := h
  exact ⟨ys, h1.mono hB, h2⟩
/-- Texts read up to the end. -/
def ptxF (zs : List Int) (len : Nat) : Nat → Option Nat → List ByteArray × Option Nat
  | 0, st => ([], st)
  | k + 1, st => if 0 < lft len st then (lb (tk zs (mv len st 1) (val (tk zs st 1))) :: (ptxF zs len k (mv len (mv len st 1) (val (tk zs st 1)))).1, (ptxF zs len k (mv len (mv len st 1) (val (tk zs st 1)))).2) else ([], st)
theorem ptxF_end (zs : List Int) (len k : Nat) (st : Option Nat) (h : ¬ 0 < lft len st) : ptxF zs len k st = ([], st) := by
  cases k with
  | zero => rfl
  | succ k => unfold ptxF; rw [if_neg h]
def lenOf : Value → Nat
  | .slice _ n _ => n
  | _ => 0
theorem Own1.n {B : Nat} {w : World} {s : Sl} {nm : List ByteArray} (h : Own1 B w s nm) : s.n = nm.length := h.rd.len.symm
/-- Two texts read: one with its length ahead, one up to the end. -/
def ptx2 (zs : List Int) (len : Nat) (st : Option Nat) : List ByteArray × Option Nat :=
  let z := val (tk zs st 1)
  let s1 := mv len st 1
  let s2 := mv len s1 z
  ([lb (tk zs s1 z), lb (tk zs s2 (lft len s2))], mv len s2 (lft len s2))
end Go.Proofs.YtfkfjodfjgjbkaaGreatDoor
namespace Go.Proofs.YtfkfjodfjgjbkaaGreatDoor
open Go.ChangeShapes Go.WideShapes Go.ChangeAt Go.RowKit
set_option linter.unusedVariables false
set_option linter.unusedSimpArgs false
theorem UOwn.keepTy {B : Nat} {w w' : World} {s : Sl} {us : List Nat} (h : UOwn B w s us) (hb : ∀ j, B ≤ j → j < w.heap.size → (∃ zs, BlkV w j 70 zs) → w'.heap[j]? = w.heap[j]?) : UOwn B w' s us := by
  obtain ⟨xs, h1, h2, h3⟩ := h
  refine ⟨xs, ?_, h2, h3⟩
  rcases h1 with h1 | ⟨g, e, hg, hblk, hn⟩
  · exact .inl h1
  · exact .inr ⟨g, e, hg, hblk.same (hb g hg hblk.lt ⟨_, hblk⟩), hn⟩
theorem blk_ty {w : World} {j : Nat} {t1 t2 : TypeId} {xs ys : List Value} (h1 : BlkV w j t1 xs) (h2 : BlkV w j t2 ys) : t1 = t2 := by
  have hh : w.heap[j]? = some (.cells xs.toArray t1 (0, 0)) := h1
  have hh' : w.heap[j]? = some (.cells ys.toArray t2 (0, 0)) := h2
  rw [hh] at hh'
  injection hh' with hh'
  injection hh'
end Go.Proofs.YtfkfjodfjgjbkaaGreatDoor
namespace Go.Proofs.YtfkfjodfjgjbkaaGreatDoor
open Go.ChangeShapes Go.WideShapes Go.ChangeAt Go.RowKit
set_option linter.unusedVariables false
set_option linter.unusedSimpArgs false
/-- From a state to the next one these bytes are gone over. -/
def Stp (zs : List Int) (st st' : Option Nat) (b : List Int) : Prop := ∀ q, st' = some q → ∃ p, st = some p ∧ (p ≤ zs.length → q ≤ zs.length ∧ zs.drop p = b ++ zs.drop q)
theorem Stp.nil (zs : List Int) (st : Option Nat) : Stp zs st st [] := fun q hq => ⟨q, hq, fun h => ⟨h, rfl⟩⟩
theorem Stp.trans {zs : List Int} {a b c : Option Nat} {x y : List Int} (h1 : Stp zs a b x) (h2 : Stp zs b c y) : Stp zs a c (x ++ y) := by
  intro q hq
  obtain ⟨p, e, hp⟩ := h2 q hq
  obtain ⟨p0, e0, hp0⟩ := h1 p e
  refine ⟨p0, e0, fun h => ?_⟩
  obtain ⟨h3, h4⟩ := hp0 h
  obtain ⟨h5, h6⟩ := hp h3
  exact ⟨h5, by rw [h4, h6, List.append_assoc]⟩
theorem Stp.take (zs : List Int) (st : Option Nat) (n : Int) : Stp zs st (mv zs.length st n) (tk zs st n) := by
  intro q hq
  cases st with
  | none => cases hq
  | some k =>
    simp only [mv] at hq
    split at hq
    · rename_i h
      cases hq
      refine ⟨k, rfl, fun _ => ⟨by omega, ?_⟩⟩
      simp only [tk]
      rw [if_pos h, ← List.drop_drop, List.take_append_drop]
    · cases hq
theorem tk_some {zs : List Int} {k : Nat} {n : Int} {q : Nat} (h : mv zs.length (some k) n = some q) : (tk zs (some k) n).length = n.toNat ∧ 0 ≤ n ∧ q = k + n.toNat := by
  simp only [mv] at h
  split at h
  · rename_i hc
    cases h
    simp only [tk]
    rw [if_pos hc]
    refine ⟨by simp; omega, hc.1, trivial⟩
  · cases h
theorem numB_val (l : List Int) (wd : Nat) (hw : wd = 1 ∨ wd = 2 ∨ wd = 4) (hl : l.length = wd) (hb : ∀ z ∈ l, 0 ≤ z ∧ z ≤ 255) : numB (val l).toNat wd = l := by
  rcases hw with rfl | rfl | rfl
  · obtain ⟨a, rfl⟩ := len1 hl
    have := hb a (by simp)
    simp [numB, val]; omega
  · obtain ⟨a, b, rfl⟩ := len2 hl
    have h1 := hb a (by simp)
    have h2 := hb b (by simp)
    simp [numB, val]; omega
  · rcases l with _ | ⟨a, _ | ⟨b, _ | ⟨c, _ | ⟨d, _ | ⟨e, l⟩⟩⟩⟩⟩ <;> simp at hl
    have h1 := hb a (by simp)
    have h2 := hb b (by simp)
    have h3 := hb c (by simp)
    have h4 := hb d (by simp)
    simp [numB, val]; omega
theorem Stp.num (zs : List Int) (hb : ∀ z ∈ zs, 0 ≤ z ∧ z ≤ 255) (st : Option Nat) (wd : Nat) (hw : wd = 1 ∨ wd = 2 ∨ wd = 4) : Stp zs st (mv zs.length st (wd : Int)) (numB (pnu zs st wd) wd) := by
  intro q hq
  have h := Stp.take zs st (wd : Int) q hq
  obtain ⟨p, rfl, h⟩ := h
  refine ⟨p, rfl, fun hp => ?_⟩
  have hl := (tk_some hq).1
  unfold pnu
  rw [numB_val _ wd hw (by omega) (tk_bytes zs _ _ hb)]
  exact h hp
theorem Stp.us (zs : List Int) (hb : ∀ z ∈ zs, 0 ≤ z ∧ z ≤ 255) (st : Option Nat) (wd : Nat) (hw : wd = 1 ∨ wd = 2 ∨ wd = 4) : ∀ k, Stp zs st (pnus zs zs.length st wd k).2 ((pnus zs zs.length st wd k).1.flatMap fun n => numB n wd)
  | 0 => Stp.nil zs st
  | k + 1 => by
    have ih := Stp.us zs hb st wd hw k
    have := ih.trans (Stp.num zs hb (pnus zs zs.length st wd k).2 wd hw)
    simpa [pnus] using this
theorem rgo_sound (l : List Int) (hb : ∀ z ∈ l, 0 ≤ z ∧ z ≤ 255) : ∀ (n p : Nat) (out o : List ByteArray) (q : Nat), l.length - p ≤ n → rgo l p out = some (o, q) → ∃ r, o = out ++ r ∧ q ≤ l.length ∧ l.drop p = nby r ++ (0 :: l.drop q) := by
  intro n
  induction n with
  | zero =>
    intro p out o q hn h
    rw [rgo_end l p out (by omega)] at h
    cases h
  | succ n ih =>
    intro p out o q hn h
    by_cases h1 : p < l.length ∧ l.getD p 0 ≤ 63
    · have hd : l.drop p = l.getD p 0 :: l.drop (p + 1) := by
        rw [List.drop_eq_getElem_cons h1.1]
        simp [List.getD_eq_getElem?_getD, h1.1]
      have hc : 0 ≤ l.getD p 0 := by
        have := hb l[p] (List.getElem_mem h1.1)
        simpa [List.getD_eq_getElem?_getD, h1.1] using this.1
      by_cases h0 : l.getD p 0 = 0
      · rw [rgo_zero l p out h1 h0] at h
        cases h
        refine ⟨[], by simp, by omega, ?_⟩
        rw [hd, h0]
        rfl
      · by_cases h2 : (l.length : Int) - ((p : Int) + 1) < l.getD p 0
        · rw [rgo_short l p out h1 h0 h2] at h; cases h
        · rw [rgo_step l p out h1 h0 h2] at h
          obtain ⟨r, e1, e2, e3⟩ := ih _ _ _ _ (by omega) h
          refine ⟨lb ((l.drop (p + 1)).take (l.getD p 0).toNat) :: r, by rw [e1]; simp, e2, ?_⟩
          have hlen : ((l.drop (p + 1)).take (l.getD p 0).toNat).length = (l.getD p 0).toNat := by rw [List.length_take, List.length_drop]; omega
          have hnm : nums (lb ((l.drop (p + 1)).take (l.getD p 0).toNat)) = (l.drop (p + 1)).take (l.getD p 0).toNat := nums_back _ fun z hz => hb z (List.mem_of_mem_drop (List.mem_of_mem_take hz))
          have hf : nby (lb ((l.drop (p + 1)).take (l.getD p 0).toNat) :: r) = ((lb ((l.drop (p + 1)).take (l.getD p 0).toNat)).size : Int) :: (nums (lb ((l.drop (p + 1)).take (l.getD p 0).toNat)) ++ nby r) := by simp [nby]
          rw [hf, lb_size, hlen, hnm, hd]
          have hz : (((l.getD p 0).toNat : Nat) : Int) = l.getD p 0 := by omega
          have e4 : (l.drop (p + 1)).drop (l.getD p 0).toNat = l.drop (p + 1 + (l.getD p 0).toNat) := List.drop_drop
          rw [hz, List.cons_append, List.append_assoc, ← e3, ← e4, List.take_append_drop]
    · rw [rgo_end l p out h1] at h; cases h
theorem nread_sound {zs : List Int} (hb : ∀ z ∈ zs, 0 ≤ z ∧ z ≤ 255) {p : Nat} (h : (nread zs (p : Int)).2.2 = 0) : ∃ q : Nat, (nread zs (p : Int)).2.1 = (q : Int) ∧ q ≤ zs.length ∧ zs.drop p = nmB (nread zs (p : Int)).1 ++ zs.drop q := by
  by_cases h1 : (p : Int) < 0 ∨ (zs.length : Int) ≤ (p : Int)
  · have e : nread zs (p : Int) = ([], 0, 2) := by unfold nread; rw [if_pos h1]
    rw [e] at h
    exact absurd h (by decide)
  · cases hr : rgo zs p [] with
    | none =>
      have e : nread zs (p : Int) = ([], 0, 8) := by unfold nread; rw [if_neg h1, Int.toNat_natCast, hr]
      rw [e] at h
      exact absurd h (by decide)
    | some x =>
      obtain ⟨o, q⟩ := x
      by_cases hk : nck o = 0
      · have e : nread zs (p : Int) = (o, (q : Int), 0) := by unfold nread; rw [if_neg h1, Int.toNat_natCast, hr]; simp [hk]
        obtain ⟨r, e1, e2, e3⟩ := rgo_sound zs hb _ p [] o q (Nat.le_refl _) hr
        rw [e]
        refine ⟨q, rfl, e2, ?_⟩
        simp at e1
        subst e1
        rw [e3]
        simp [nmB]
      · have e : nread zs (p : Int) = ([], 0, 8) := by unfold nread; rw [if_neg h1, Int.toNat_natCast, hr]; simp [hk]
        rw [e] at h
        exact absurd h (by decide)
theorem Stp.nm (zs : List Int) (hb : ∀ z ∈ zs, 0 ≤ z ∧ z ≤ 255) (st : Option Nat) : Stp zs st (pnm1 zs zs.length st).2 (nmB (pnm1 zs zs.length st).1) := by
  intro q hq
  cases st with
  | none => cases hq
  | some p =>
    refine ⟨p, rfl, fun hp => ?_⟩
    have hq' : jm zs.length (some p) (if (nread zs (p : Int)).2.2 = 0 then (nread zs (p : Int)).2.1 else -1) = some q := hq
    show q ≤ zs.length ∧ zs.drop p = nmB (nread zs (p : Int)).1 ++ zs.drop q
    by_cases h0 : (nread zs (p : Int)).2.2 = 0
    · obtain ⟨r, e1, e2, e3⟩ := nread_sound hb h0
      rw [if_pos h0, e1] at hq'
      simp only [jm] at hq'
      rw [if_pos ⟨by omega, by omega⟩, Int.toNat_natCast] at hq'
      cases hq'
      exact ⟨e2, e3⟩
    · rw [if_neg h0] at hq'
      simp only [jm] at hq'
      rw [if_neg (by omega)] at hq'
      cases hq'
theorem nby_cons (s : ByteArray) (r : List ByteArray) : nby (s :: r) = ((s.size : Int) :: nums s) ++ nby r := by simp [nby]
theorem Stp.text (zs : List Int) (hb : ∀ z ∈ zs, 0 ≤ z ∧ z ≤ 255) (st : Option Nat) : Stp zs st (mv zs.length (mv zs.length st 1) (val (tk zs st 1))) (((lb (tk zs (mv zs.length st 1) (val (tk zs st 1)))).size : Int) :: nums (lb (tk zs (mv zs.length st 1) (val (tk zs st 1))))) := by
  intro q hq
  obtain ⟨p1, e1, hB⟩ := Stp.take zs _ _ q hq
  obtain ⟨p0, rfl, hA⟩ := Stp.take zs _ _ p1 e1
  have h1 := tk_some e1
  rw [e1] at hq hB ⊢
  have h2 := tk_some hq
  obtain ⟨c, hc⟩ := len1 (l := tk zs (some p0) 1) (by simpa using h1.1)
  have hv : val (tk zs (some p0) 1) = c := by rw [hc]; simp [val]
  refine ⟨p0, rfl, fun hp => ?_⟩
  obtain ⟨a1, a2⟩ := hA hp
  obtain ⟨b1, b2⟩ := hB a1
  refine ⟨b1, ?_⟩
  have hnm : nums (lb (tk zs (some p1) (val (tk zs (some p0) 1)))) = tk zs (some p1) (val (tk zs (some p0) 1)) := nums_back _ (tk_bytes zs _ _ hb)
  rw [hnm, lb_size, h2.1, a2, b2, hc]
  have : (((val (tk zs (some p0) 1)).toNat : Nat) : Int) = c := by omega
  rw [hc] at this
  rw [this]
  simp
theorem Stp.texts (zs : List Int) (hb : ∀ z ∈ zs, 0 ≤ z ∧ z ≤ 255) : ∀ (k : Nat) (st : Option Nat), Stp zs st (ptxF zs zs.length k st).2 (nby (ptxF zs zs.length k st).1)
  | 0, st => Stp.nil zs st
  | k + 1, st => by
    by_cases h : 0 < lft zs.length st
    · have ih := Stp.texts zs hb k (mv zs.length (mv zs.length st 1) (val (tk zs st 1)))
      have := (Stp.text zs hb st).trans ih
      unfold ptxF
      rw [if_pos h]
      simp only
      rw [nby_cons]
      exact this
    · rw [ptxF_end zs zs.length (k + 1) st h]
      exact Stp.nil zs st
theorem Stp.two (zs : List Int) (hb : ∀ z ∈ zs, 0 ≤ z ∧ z ≤ 255) (st : Option Nat) : Stp zs st (ptx2 zs zs.length st).2 (ptB 1 (ptx2 zs zs.length st).1) := by
  have h1 := Stp.text zs hb st
  have h2 := h1.trans (Stp.take zs (mv zs.length (mv zs.length st 1) (val (tk zs st 1))) (lft zs.length (mv zs.length (mv zs.length st 1) (val (tk zs st 1)))))
  have e : ptB 1 (ptx2 zs zs.length st).1 = (((lb (tk zs (mv zs.length st 1) (val (tk zs st 1)))).size : Int) :: nums (lb (tk zs (mv zs.length st 1) (val (tk zs st 1))))) ++ tk zs (mv zs.length (mv zs.length st 1) (val (tk zs st 1))) (lft zs.length (mv zs.length (mv zs.length st 1) (val (tk zs st 1)))) := by
    have hn : nums (lb (tk zs (mv zs.length (mv zs.length st 1) (val (tk zs st 1))) (lft zs.length (mv zs.length (mv zs.length st 1) (val (tk zs st 1)))))) = tk zs (mv zs.length (mv zs.length st 1) (val (tk zs st 1))) (lft zs.length (mv zs.length (mv zs.length st 1) (val (tk zs st 1)))) := nums_back _ (tk_bytes zs _ _ hb)
    simp [ptB, ptx2, nby, hn]
  rw [e]
  exact h2
end Go.Proofs.YtfkfjodfjgjbkaaGreatDoor
namespace Go.Proofs.YtfkfjodfjgjbkaaGreatDoor
open Go.ChangeShapes Go.WideShapes Go.ChangeAt Go.RowKit
set_option linter.unusedVariables false
set_option linter.unusedSimpArgs false
theorem FBox.off {w w' : World} {b g : Nat} {f : Fs} (h : FBox w b f) (hg : w.grownBy w' (some g)) (hne : g ≠ b) : FBox w' b f := by
  obtain ⟨h0, h1, h2, h3, h4, h5, h6, h7, hl⟩ := h
  have hb : w'.heap[b]? = w.heap[b]? := hg.block b hl (fun e => by cases e; omega)
  exact ⟨(World.cell?_of_block hb).trans h0, (World.cell?_of_block hb).trans h1, (World.cell?_of_block hb).trans h2, (World.cell?_of_block hb).trans h3, (World.cell?_of_block hb).trans h4, (World.cell?_of_block hb).trans h5, (World.cell?_of_block hb).trans h6, (World.cell?_of_block hb).trans h7, Nat.lt_of_lt_of_le hl hg.size⟩
theorem UOwn.mono {B B' : Nat} {w : World} {s : Sl} {us : List Nat} (h : UOwn B w s us) (hB : B' ≤ B) : UOwn B' w s us := by
  obtain ⟨xs, h1, h2⟩ := h
  exact ⟨xs, h1.mono hB, h2⟩
theorem OwnN.mono {B B' : Nat} {w : World} {v : Value} {nss : List (List ByteArray)} (h : OwnN B w v nss) (hB : B' ≤ B) : OwnN B' w v nss := by
  obtain ⟨xs, h1, h2⟩ := h
  refine ⟨xs, h1.mono hB, fun i hi => ?_⟩
  obtain ⟨s, e1, e2⟩ := h2 i hi
  exact ⟨s, e1, e2.mono hB⟩
theorem BOwn.mono {B B' : Nat} {w : World} {s : Sl} {zs : List Int} (h : BOwn B w s zs) (hB : B' ≤ B) : BOwn B' w s zs := by
  obtain ⟨xs, h1, h2⟩ := h
  exact ⟨xs, own_mono h1 hB, h2⟩
theorem UOwn.offTy {B : Nat} {w w' : World} {s : Sl} {us : List Nat} (h : UOwn B w s us) (hg : ∃ o, w.grownBy w' o ∧ ∀ j, o = some j → B ≤ j ∧ ∃ zs, BlkV w j 45 zs) : UOwn B w' s us := by
  obtain ⟨o, h1, h2⟩ := hg
  refine h.keepTy fun j _ hj ⟨zs, hz⟩ => h1.block j hj (fun e => ?_)
  obtain ⟨_, zs', hz'⟩ := h2 j e.symm
  exact absurd (blk_ty hz hz') (by decide)
theorem Own1.offTy {B : Nat} {w w' : World} {s : Sl} {us : List ByteArray} (h : Own1 B w s us) (hg : ∃ o, w.grownBy w' o ∧ ∀ j, o = some j → B ≤ j ∧ ∃ zs, BlkV w j 45 zs) : Own1 B w' s us := by
  obtain ⟨o, h1, h2⟩ := hg
  refine h.keep fun j _ hj ⟨zs, hz⟩ => h1.block j hj (fun e => ?_)
  obtain ⟨_, zs', hz'⟩ := h2 j e.symm
  exact absurd (blk_ty hz hz') (by decide)
theorem RS.offTy {Wb W W' : World} {g : Nat} {a : Option Addr} {len cap : Nat} {zs : List Int} {st : Option Nat} (h : RS Wb W g a len cap zs st) (hg : ∃ o, W.grownBy W' o ∧ ∀ j, o = some j → Wb.heap.size ≤ j ∧ ∃ zs, BlkV W j 45 zs) : RS Wb W' g a len cap zs st := by
  obtain ⟨o, h1, h2⟩ := hg
  exact h.app h1 (fun j hj => (h2 j hj).1)
theorem DBlk.offTy {W W' : World} {D B : Nat} {x : DA} (h : DBlk W D x) (hg : ∃ o, W.grownBy W' o ∧ ∀ j, o = some j → B ≤ j ∧ ∃ zs, BlkV W j 45 zs) : DBlk W' D x := by
  obtain ⟨o, h1, h2⟩ := hg
  refine h.same (h1.block D h.lt (fun e => ?_))
  obtain ⟨_, zs', hz'⟩ := h2 D e.symm
  have hh : W.heap[D]? = _ := h
  have hh' : W.heap[D]? = some (.cells zs'.toArray 45 (0, 0)) := hz'
  rw [hh] at hh'
  injection hh' with hh'
  injection hh' with _ hh'
  exact absurd hh' (by decide)
theorem DBlk.call {W W' : World} {D g : Nat} {x : DA} (h : DBlk W D x) (hg : W.grownBy W' (some g)) (hne : g < D) : DBlk W' D x := h.same (hg.block D h.lt (fun e => by cases e; omega))
theorem dblk_new (W : World) : DBlk (W.alloc (.cells #[.slice none 0 0, .slice none 0 0, .slice none 0 0, .slice none 0 0] 29)) W.heap.size nilDA := heap_alloc_new _ _
theorem OwnN.keepTy {B : Nat} {w w' : World} {v : Value} {nss : List (List ByteArray)} (h : OwnN B w v nss) (hb : ∀ j, B ≤ j → j < w.heap.size → (∃ t zs, BlkV w j t zs ∧ (t = 45 ∨ t = 9)) → w'.heap[j]? = w.heap[j]?) : OwnN B w' v nss := by
  obtain ⟨xs, h1, h2⟩ := h
  refine ⟨xs, ?_, fun i hi => ?_⟩
  · rcases h1 with h1 | ⟨g, e, hg, hblk, hn⟩
    · exact .inl h1
    · exact .inr ⟨g, e, hg, hblk.same (hb g hg hblk.lt ⟨_, _, hblk, .inl rfl⟩), hn⟩
  · obtain ⟨s, e1, e2⟩ := h2 i hi
    exact ⟨s, e1, e2.keep (fun j h1 h2 ⟨zs, hz⟩ => hb j h1 h2 ⟨_, zs, hz, .inr rfl⟩)⟩
theorem DBlk.ne {W : World} {D j : Nat} {x : DA} {t : TypeId} {zs : List Value} (h : DBlk W D x) (hz : BlkV W j t zs) (ht : t ≠ 29) : j ≠ D := by
  rintro rfl
  have hh : W.heap[j]? = _ := h
  have hh' : W.heap[j]? = some (.cells zs.toArray t (0, 0)) := hz
  rw [hh] at hh'
  injection hh' with hh'
  injection hh' with _ hh'
  exact ht hh'.symm
/-- Four cells of a box are written. -/
abbrev set4 (W : World) (D : Nat) (x : DA) : World := (((W.setCell ⟨D, 0, none⟩ (.slice x.p1.a x.p1.n x.p1.c)).setCell ⟨D, 1, none⟩ (.slice x.p2.a x.p2.n x.p2.c)).setCell ⟨D, 2, none⟩ (.slice x.p3.a x.p3.n x.p3.c)).setCell ⟨D, 3, none⟩ (.slice x.p4.a x.p4.n x.p4.c)
theorem set4_blk {W : World} {D : Nat} {y : DA} (h : DBlk W D y) (x : DA) : DBlk (set4 W D x) D x := (heap_set (heap_set (heap_set (heap_set h 0 _) 1 _) 2 _) 3 _).trans (by simp)
theorem set4_off (W : World) (D : Nat) (x : DA) (j : Nat) (hj : j ≠ D) : (set4 W D x).heap[j]? = W.heap[j]? :=
  (((Below.heap_setCell _ _ _ j hj).trans (Below.heap_setCell _ _ _ j hj)).trans (Below.heap_setCell _ _ _ j hj)).trans (Below.heap_setCell _ _ _ j hj)
/-- Data that are gathered: a reader, their lists, their box. -/
structure CutS (Wb W : World) (g : Nat) (a : Option Addr) (len cap : Nat) (zs : List Int) (st : Option Nat) (D : Nat) (x : DA) (d : Dat) : Prop where
  rs : RS Wb W g a len cap zs st
  own : DOwn Wb.heap.size W x d
  blk : DBlk W D x
  low : Wb.heap.size ≤ D
theorem CutS.rd {Wb W W' : World} {g : Nat} {a : Option Addr} {len cap : Nat} {zs : List Int} {st st' : Option Nat} {D : Nat} {x : DA} {d : Dat} (h : CutS Wb W g a len cap zs st D x d) (h1 : RS Wb W' g a len cap zs st') (h2 : W.grownBy W' (some g)) : CutS Wb W' g a len cap zs st' D x d :=
  ⟨h1, h.own.keep (fun j hj hl => h2.block j hl (fun e => by have := h.rs.gl; have := Option.some.inj e; omega)), h.blk.call h2 (Nat.lt_of_lt_of_le h.rs.gl h.low), h.low⟩
theorem BOwn.keepD {B : Nat} {w w' : World} {s : Sl} {zs : List Int} {D : Nat} {x : DA} (h : BOwn B w s zs) (hD : DBlk w D x) (hb : ∀ j, j ≠ D → w'.heap[j]? = w.heap[j]?) : BOwn B w' s zs := by
  obtain ⟨ys, h1, h2⟩ := h
  refine ⟨ys, ?_, h2⟩
  rcases h1 with h1 | ⟨g, e1, e2, e3, e4⟩
  · exact .inl h1
  · refine .inr ⟨g, e1, e2, e3.same (hb g ?_), e4⟩
    rintro rfl
    have hh : w.heap[g]? = _ := hD
    have hh' := e3.1
    rw [hh] at hh'
    injection hh' with hh'
    injection hh' with _ hh'
    exact absurd hh' (by decide)
theorem CutS.raw {Wb W : World} {g : Nat} {a : Option Addr} {len cap : Nat} {zs : List Int} {st : Option Nat} {D : Nat} {x : DA} {d : Dat} (h : CutS Wb W g a len cap zs st D x d) {s : Sl} {ys : List Int} (hs : BOwn Wb.heap.size W s ys) : CutS Wb (W.setCell ⟨D, 3, none⟩ (.slice s.a s.n s.c)) g a len cap zs st D ⟨x.p1, x.p2, x.p3, s⟩ ⟨d.ns, d.us, d.ts, ys⟩ := by
  have e : ∀ j, j ≠ D → (W.setCell ⟨D, 3, none⟩ (.slice s.a s.n s.c)).heap[j]? = W.heap[j]? := fun j hj => Below.heap_setCell _ _ _ j hj
  have hg : W.grownBy (W.setCell ⟨D, 3, none⟩ (.slice s.a s.n s.c)) (some D) := ⟨rfl, rfl, rfl, by simp [World.setCell], fun j _ hne => e j (fun e => hne (by rw [e]))⟩
  obtain ⟨h1, ⟨h2, h3, h4, _⟩, hD, hl⟩ := h
  refine ⟨h1.app hg (by rintro j ⟨⟩; exact hl), ⟨h2.keepTy ?_, h3.keepTy ?_, h4.keep ?_, hs.keepD hD e⟩, hD.set3 s, hl⟩
  · rintro j _ _ ⟨t, zs, hz, ht⟩
    exact e j (hD.ne hz (by rcases ht with rfl | rfl <;> decide))
  · rintro j _ _ ⟨zs, hz⟩
    exact e j (hD.ne hz (by decide))
  · rintro j _ _ ⟨zs, hz⟩
    exact e j (hD.ne hz (by decide))
theorem DOwn.mono {B B' : Nat} {w : World} {x : DA} {d : Dat} (h : DOwn B w x d) (hB : B' ≤ B) : DOwn B' w x d := ⟨h.1.mono hB, h.2.1.mono hB, h.2.2.1.mono hB, h.2.2.2.mono hB⟩
end Go.Proofs.YtfkfjodfjgjbkaaGreatDoor
namespace Go.Proofs.YtfkfjodfjgjbkaaGreatDoor
open Go.ChangeShapes Go.WideShapes Go.ChangeAt Go.RowKit
set_option linter.unusedVariables false
set_option linter.unusedSimpArgs false
theorem ret4 {w W : World} {b : Nat} {y : DA} (h : DBlk W b y) (hb : Below w.heap.size w W) (hw : w.heap.size ≤ b) (x : DA) : DBlk (set4 W b x) b x ∧ Below w.heap.size w (set4 W b x) :=
  ⟨set4_blk h x, (((hb.setCell (p := ⟨b, 0, none⟩) hw _).setCell (p := ⟨b, 1, none⟩) hw _).setCell (p := ⟨b, 2, none⟩) hw _).setCell (p := ⟨b, 3, none⟩) hw _⟩
theorem DOwn.ret4 {B B' : Nat} {W : World} {b : Nat} {x : DA} {d : Dat} (h : DOwn B W x d) (hb : b < B) (hB : B' ≤ B) : DOwn B' (set4 W b x) x d := (h.keep (fun j hj _ => set4_off W b x j (by omega))).mono hB
theorem DOwn.stays {B : Nat} {w w' : World} {x : DA} {d : Dat} (h : DOwn B w x d) (hb : Below w.heap.size w w') : DOwn B w' x d := h.keep fun j _ hj => hb.block j hj
end Go.Proofs.YtfkfjodfjgjbkaaGreatDoor
namespace Go.Proofs.YtfkfjodfjgjbkaaGreatDoor
open Go.ChangeShapes Go.WideShapes Go.ChangeAt Go.RowKit
set_option linter.unusedVariables false
set_option linter.unusedSimpArgs false
abbrev Wd := ByteArray × Bool
/-- Words that lie in memory: a text and a bool each. -/
def RdW (w : World) (a : Option Addr) (ws : List Wd) : Prop :=
  ws = [] ∨ ∃ b o, a = some ⟨b, o, none⟩ ∧ b < w.heap.size ∧ ∀ i (h : i < ws.length), w.cell? ⟨b, o + 2 * i, none⟩ = some (.string ws[i].1) ∧ w.cell? ⟨b, o + 2 * i + 1, none⟩ = some (.bool ws[i].2)
theorem RdW.below {w w' : World} {a : Option Addr} {ws : List Wd} (h : RdW w a ws) (hb : Below w.heap.size w w') : RdW w' a ws := by
  rcases h with h | ⟨b, o, h1, h2, h3⟩
  · exact .inl h
  · exact .inr ⟨b, o, h1, Nat.lt_of_lt_of_le h2 hb.size, fun i hi => ⟨(hb.cell (p := ⟨b, o + 2 * i, none⟩) h2).trans (h3 i hi).1, (hb.cell (p := ⟨b, o + 2 * i + 1, none⟩) h2).trans (h3 i hi).2⟩⟩
/-- The reader's block, made in w0. -/
def RBk (w0 w : World) (wa : Option Addr) (n c : Nat) (oa : Option Addr) (on oc : Nat) (x : DA) (bad : Bool) : Prop :=
  w.heap[w0.heap.size]? = some (.cells #[.slice wa n c, .slice oa on oc, .slice x.p1.a x.p1.n x.p1.c, .slice x.p2.a x.p2.n x.p2.c, .slice x.p3.a x.p3.n x.p3.c, .slice x.p4.a x.p4.n x.p4.c, .bool bad] 125 (0, 0))
theorem RBk.lt {w0 w : World} {wa : Option Addr} {n c : Nat} {oa : Option Addr} {on oc : Nat} {x : DA} {bad : Bool} (h : RBk w0 w wa n c oa on oc x bad) : w0.heap.size < w.heap.size := (Array.getElem?_eq_some_iff.1 h).1
theorem RBk.cells {w0 w : World} {wa : Option Addr} {n c : Nat} {oa : Option Addr} {on oc : Nat} {x : DA} {bad : Bool} (h : RBk w0 w wa n c oa on oc x bad) :
    w.cell? ⟨w0.heap.size, 0, none⟩ = some (.slice wa n c) ∧ w.cell? ⟨w0.heap.size, 1, none⟩ = some (.slice oa on oc) ∧ w.cell? ⟨w0.heap.size, 2, none⟩ = some (.slice x.p1.a x.p1.n x.p1.c) ∧ w.cell? ⟨w0.heap.size, 3, none⟩ = some (.slice x.p2.a x.p2.n x.p2.c) ∧ w.cell? ⟨w0.heap.size, 4, none⟩ = some (.slice x.p3.a x.p3.n x.p3.c) ∧ w.cell? ⟨w0.heap.size, 5, none⟩ = some (.slice x.p4.a x.p4.n x.p4.c) ∧ w.cell? ⟨w0.heap.size, 6, none⟩ = some (.bool bad) := by
  unfold World.cell?
  rw [show w.heap[w0.heap.size]? = _ from h]
  exact ⟨rfl, rfl, rfl, rfl, rfl, rfl, rfl⟩
theorem RBk.fz {w0 w : World} {wa : Option Addr} {n c : Nat} {oa : Option Addr} {on oc : Nat} {x : DA} {bad : Bool} (h : RBk w0 w wa n c oa on oc x bad) (i : Nat) : w.frozen? ⟨w0.heap.size, i, none⟩ = false := by
  unfold World.frozen?
  rw [show w.heap[w0.heap.size]? = _ from h]
  simp
/-- The reader as it stands: its block, its data, and that nothing older has changed. -/
structure RX (w0 w : World) (wa : Option Addr) (n c : Nat) (oa : Option Addr) (on oc : Nat) (x : DA) (bad : Bool) (d : Dat) : Prop where
  blk : RBk w0 w wa n c oa on oc x bad
  own : DOwn (w0.heap.size + 1) w x d
  bel : Below w0.heap.size w0 w
theorem RX.step {w0 w w' : World} {wa : Option Addr} {n c : Nat} {oa : Option Addr} {on oc : Nat} {x : DA} {bad : Bool} {d : Dat} (h : RX w0 w wa n c oa on oc x bad d) (hb : Below w.heap.size w w') : RX w0 w' wa n c oa on oc x bad d :=
  ⟨(hb.block _ h.blk.lt).trans h.blk, h.own.stays hb, h.bel.trans (hb.mono h.bel.size)⟩
theorem RX.set {w0 w : World} {wa wa' : Option Addr} {n c n' c' : Nat} {oa : Option Addr} {on oc : Nat} {x x' : DA} {bad bad' : Bool} {d : Dat} (h : RX w0 w wa n c oa on oc x bad d) (i : Nat) (v : Value)
    (hb : RBk w0 (w.setCell ⟨w0.heap.size, i, none⟩ v) wa' n' c' oa on oc x' bad') : RBk w0 (w.setCell ⟨w0.heap.size, i, none⟩ v) wa' n' c' oa on oc x' bad' ∧ DOwn (w0.heap.size + 1) (w.setCell ⟨w0.heap.size, i, none⟩ v) x d ∧ Below w0.heap.size w0 (w.setCell ⟨w0.heap.size, i, none⟩ v) :=
  ⟨hb, h.own.keep (fun j hj _ => Below.heap_setCell _ _ _ j (by show j ≠ w0.heap.size; omega)), h.bel.setCell (show w0.heap.size ≤ (⟨w0.heap.size, i, none⟩ : Addr).block from Nat.le_refl _) _⟩
theorem RBk.set0 {w0 w : World} {wa : Option Addr} {n c : Nat} {oa : Option Addr} {on oc : Nat} {x : DA} {bad : Bool} (h : RBk w0 w wa n c oa on oc x bad) (wa' : Option Addr) (n' c' : Nat) : RBk w0 (w.setCell ⟨w0.heap.size, 0, none⟩ (.slice wa' n' c')) wa' n' c' oa on oc x bad := by
  have := heap_set h 0 (.slice wa' n' c'); simpa [RBk] using this
theorem RBk.set3 {w0 w : World} {wa : Option Addr} {n c : Nat} {oa : Option Addr} {on oc : Nat} {x : DA} {bad : Bool} (h : RBk w0 w wa n c oa on oc x bad) (s : Sl) : RBk w0 (w.setCell ⟨w0.heap.size, 3, none⟩ (.slice s.a s.n s.c)) wa n c oa on oc ⟨x.p1, s, x.p3, x.p4⟩ bad := by
  have := heap_set h 3 (.slice s.a s.n s.c); simpa [RBk] using this
theorem RBk.set4 {w0 w : World} {wa : Option Addr} {n c : Nat} {oa : Option Addr} {on oc : Nat} {x : DA} {bad : Bool} (h : RBk w0 w wa n c oa on oc x bad) (s : Sl) : RBk w0 (w.setCell ⟨w0.heap.size, 4, none⟩ (.slice s.a s.n s.c)) wa n c oa on oc ⟨x.p1, x.p2, s, x.p4⟩ bad := by
  have := heap_set h 4 (.slice s.a s.n s.c); simpa [RBk] using this
theorem RBk.set6 {w0 w : World} {wa : Option Addr} {n c : Nat} {oa : Option Addr} {on oc : Nat} {x : DA} {bad : Bool} (h : RBk w0 w wa n c oa on oc x bad) (b : Bool) : RBk w0 (w.setCell ⟨w0.heap.size, 6, none⟩ (.bool b)) wa n c oa on oc x b := by
  have := heap_set h 6 (.bool b); simpa [RBk] using this
end Go.Proofs.YtfkfjodfjgjbkaaGreatDoor
namespace Go.Proofs.YtfkfjodfjgjbkaaGreatDoor
open Go.ChangeShapes Go.WideShapes Go.ChangeAt Go.RowKit
set_option linter.unusedVariables false
set_option linter.unusedSimpArgs false
/-- Where the walk stands: both lie in blocks of their own, and can be read. -/
def SdSt (w W : World) (b : Nat) (x y : DA) (d : Dat) : Prop := DBox W b x ∧ DBox W (b + 1) y ∧ DRd W x d ∧ DRd W y d ∧ Below w.heap.size w W
theorem SdSt.go {w W W' : World} {b : Nat} {x y : DA} {d : Dat} (h : SdSt w W b x y d) (hb : Below W.heap.size W W') : SdSt w W' b x y d :=
  ⟨h.1.below hb, h.2.1.below hb, h.2.2.1.below hb, h.2.2.2.1.below hb, h.2.2.2.2.trans (hb.mono h.2.2.2.2.size)⟩
set_option maxRecDepth 100000 in
set_option maxHeartbeats 2000000 in
theorem samedata_yes (x y : DA) (d : Dat) (w : World) (hx : DRd w x d) (hy : DRd w y d) :
    Calls Tryz.prog 21 #[.agg #[.slice x.p1.a x.p1.n x.p1.c, .slice x.p2.a x.p2.n x.p2.c, .slice x.p3.a x.p3.n x.p3.c, .slice x.p4.a x.p4.n x.p4.c], .agg #[.slice y.p1.a y.p1.n y.p1.c, .slice y.p2.a y.p2.n y.p2.c, .slice y.p3.a y.p3.n y.p3.c, .slice y.p4.a y.p4.n y.p4.c]] w fun e w' => e = .returned (.bool true) ∧ Hid (Below w.heap.size w w') := by
  have hb1 : Below w.heap.size w (w.alloc (.cells #[.slice x.p1.a x.p1.n x.p1.c, .slice x.p2.a x.p2.n x.p2.c, .slice x.p3.a x.p3.n x.p3.c, .slice x.p4.a x.p4.n x.p4.c] 29)) := (Below.refl _ _).alloc (Nat.le_refl _) _
  have HX := DBox.new w x
  have hx1 := hx.below hb1
  have hy1 := hy.below hb1
  have e1 : y.p1.n = x.p1.n := by rw [← hx.h1.len, ← hy.h1.len]
  have e2 : y.p2.n = x.p2.n := by rw [← hx.h2.len, ← hy.h2.len]
  have e3 : y.p3.n = x.p3.n := by rw [← hx.h3.len, ← hy.h3.len]
  have e4 : y.p4.n = x.p4.n := by rw [← hx.h4.len, ← hy.h4.len]
  obtain ⟨W0, hW0⟩ : ∃ W, W = w.alloc (.cells #[.slice x.p1.a x.p1.n x.p1.c, .slice x.p2.a x.p2.n x.p2.c, .slice x.p3.a x.p3.n x.p3.c, .slice x.p4.a x.p4.n x.p4.c] 29) := ⟨_, rfl⟩
  have hs0 : W0.heap.size = w.heap.size + 1 := by rw [hW0]; simp
  rw [← hW0] at hb1 HX hx1 hy1
  have hb2 : Below W0.heap.size W0 (W0.alloc (.cells #[.slice y.p1.a y.p1.n y.p1.c, .slice y.p2.a y.p2.n y.p2.c, .slice y.p3.a y.p3.n y.p3.c, .slice y.p4.a y.p4.n y.p4.c] 29)) := (Below.refl _ _).alloc (Nat.le_refl _) _
  have HY := DBox.new W0 y
  have H : Hid (∃ b c, b = w.heap.size ∧ c = w.heap.size + 1 ∧ DBox (W0.alloc (.cells #[.slice y.p1.a y.p1.n y.p1.c, .slice y.p2.a y.p2.n y.p2.c, .slice y.p3.a y.p3.n y.p3.c, .slice y.p4.a y.p4.n y.p4.c] 29)) b x ∧ DBox (W0.alloc (.cells #[.slice y.p1.a y.p1.n y.p1.c, .slice y.p2.a y.p2.n y.p2.c, .slice y.p3.a y.p3.n y.p3.c, .slice y.p4.a y.p4.n y.p4.c] 29)) c y ∧
      DRd (W0.alloc (.cells #[.slice y.p1.a y.p1.n y.p1.c, .slice y.p2.a y.p2.n y.p2.c, .slice y.p3.a y.p3.n y.p3.c, .slice y.p4.a y.p4.n y.p4.c] 29)) x d ∧ DRd (W0.alloc (.cells #[.slice y.p1.a y.p1.n y.p1.c, .slice y.p2.a y.p2.n y.p2.c, .slice y.p3.a y.p3.n y.p3.c, .slice y.p4.a y.p4.n y.p4.c] 29)) y d ∧ Below w.heap.size w (W0.alloc (.cells #[.slice y.p1.a y.p1.n y.p1.c, .slice y.p2.a y.p2.n y.p2.c, .slice y.p3.a y.p3.n y.p3.c, .slice y.p4.a y.p4.n y.p4.c] 29))) :=
    ⟨w.heap.size, w.heap.size + 1, rfl, rfl, HX.below hb2, by rw [← hs0]; exact HY, hx1.below hb2, hy1.below hb2, hb1.trans (hb2.mono hb1.size)⟩
  clear hx hy hb1 HX hx1 hy1 hb2 HY hs0
  rw [hW0] at H
  clear hW0 W0
  obtain ⟨⟨a1, n1, k1⟩, ⟨a2, n2, k2⟩, ⟨a3, n3, k3⟩, ⟨a4, n4, k4⟩⟩ := x
  obtain ⟨⟨b1, m1, j1⟩, ⟨b2, m2, j2⟩, ⟨b3, m3, j3⟩, ⟨b4, m4, j4⟩⟩ := y
  simp only at e1 e2 e3 e4 H ⊢
  subst e1 e2 e3 e4
  go_enter Tryz.func21, Tryz.ntmps21
  go_upto_region 1 with fail
  generalize ((w.alloc (.cells #[.slice a1 m1 k1, .slice a2 m2 k2, .slice a3 m3 k3, .slice a4 m4 k4] 29)).alloc (.cells #[.slice b1 m1 j1, .slice b2 m2 j2, .slice b3 m3 j3, .slice b4 m4 j4] 29)) = W1 at *
  obtain ⟨b, b', hb, hb', X, Y, DX, DY, BB⟩ := H.out
  clear H
  rw [← hb]
  rw [← hb] at hb'
  subst hb'
  have Hb : Hid (b = w.heap.size) := hb
  clear hb
  have H : Hid (SdSt w W1 b ⟨⟨a1, m1, k1⟩, ⟨a2, m2, k2⟩, ⟨a3, m3, k3⟩, ⟨a4, m4, k4⟩⟩ ⟨⟨b1, m1, j1⟩, ⟨b2, m2, j2⟩, ⟨b3, m3, j3⟩, ⟨b4, m4, j4⟩⟩ d) := ⟨X, Y, DX, DY, BB⟩
  clear X Y DX DY BB
  have x0 := H.out.1.1
  have x1 := H.out.1.2.1
  have x2 := H.out.1.2.2.1
  have y0 := H.out.2.1.1
  have y1 := H.out.2.1.2.1
  have y2 := H.out.2.1.2.2.1
  simp only at x0 x1 x2 y0 y1 y2
  go_wp2_with fail
  refine (sameT_yes a3 b3 m3 k3 j3 d.ts W1 H.out.2.2.1.h3.rd H.out.2.2.2.1.h3.rd H.out.2.2.1.h3.len (Nat.le_trans H.out.2.2.1.h3.cap.1 H.out.2.2.1.h3.cap.2)).mono ?_
  rintro e W2 ⟨rfl, H2⟩
  have H' : Hid (SdSt w W2 b ⟨⟨a1, m1, k1⟩, ⟨a2, m2, k2⟩, ⟨a3, m3, k3⟩, ⟨a4, m4, k4⟩⟩ ⟨⟨b1, m1, j1⟩, ⟨b2, m2, j2⟩, ⟨b3, m3, j3⟩, ⟨b4, m4, j4⟩⟩ d) := H.out.go H2.out
  clear H2 H x0 x1 x2 y0 y1 y2
  have x3 := H'.out.1.2.2.2.1
  have y3 := H'.out.2.1.2.2.2.1
  simp only at x3 y3
  go_wp2_with fail
  refine (same_yes a4 b4 m4 k4 j4 d.raw W2 H'.out.2.2.1.h4.rd H'.out.2.2.2.1.h4.rd H'.out.2.2.1.h4.len).mono ?_
  rintro e W3 ⟨rfl, rfl⟩
  clear x3 y3
  have hn1 : d.ns.length = m1 := H'.out.2.2.1.h1.len
  have hn2 : d.us.length = m2 := H'.out.2.2.1.h2.len
  have hm1 : m1 ≤ 9223372036854775807 := Nat.le_trans H'.out.2.2.1.h1.cap.1 H'.out.2.2.1.h1.cap.2
  have hm2 : m2 ≤ 9223372036854775807 := Nat.le_trans H'.out.2.2.1.h2.cap.1 H'.out.2.2.1.h2.cap.2
  have HN : Hid (d.ns.length = m1 ∧ d.us.length = m2) := ⟨hn1, hn2⟩
  clear hn1 hn2
  go_wp2_with fail
  go_loopw [5] (fun v wr => ∃ k : Nat, k ≤ m1 ∧ v = .int .i64 (k : Int) ∧ Hid (SdSt w wr b ⟨⟨a1, m1, k1⟩, ⟨a2, m2, k2⟩, ⟨a3, m3, k3⟩, ⟨a4, m4, k4⟩⟩ ⟨⟨b1, m1, j1⟩, ⟨b2, m2, j2⟩, ⟨b3, m3, j3⟩, ⟨b4, m4, j4⟩⟩ d)) (fun v _ => m1 - (intOf v).toNat)
  case atStart => exact ⟨0, Nat.zero_le _, rfl, H'⟩
  case round =>
    obtain ⟨k, hk, rfl, H⟩ := hrel
    clear H'
    have x0 := H.out.1.1
    have y0 := H.out.2.1.1
    simp only at x0 y0
    by_cases hlt : k < m1
    · have hlt' : (k : Int) < (m1 : Int) := by omega
      have hki : k < d.ns.length := by rw [HN.out.1]; exact hlt
      obtain ⟨B1, o1, ha1, hl1, z1, hz1, hr1⟩ := H.out.2.2.1.h1.at k hki
      obtain ⟨B2, o2, ha2, hl2, z2, hz2, hr2⟩ := H.out.2.2.2.1.h1.at k hki
      simp only at ha1 ha2
      subst ha1 ha2
      have ez : z2.n = z1.n := by rw [← hr1.len, ← hr2.len]
      rw [ez] at hz2
      have KS : Hid (∀ W', Below wr.heap.size wr W' → Calls Tryz.prog 51 #[.slice z1.a z1.n z1.c, .slice z2.a z1.n z2.c] W' fun e w' => e = .returned (.bool true) ∧ Hid (Below W'.heap.size W' w')) :=
        fun W' hb => sameN_yes z1.a z2.a z1.n z1.c z2.c d.ns[k] W' (hr1.rd.below hb) (hr2.rd.below hb) hr1.len (Nat.le_trans hr1.cap.1 hr1.cap.2)
      have HBx : Hid (Below wr.heap.size wr wr.drew) := (Below.refl _ _).drew
      have hbx := H.out.1.2.2.2.2
      have hby := H.out.2.1.2.2.2.2
      clear hr1 hr2 ez
      generalize z1.a = za1 at *
      generalize z1.n = zn1 at *
      generalize z1.c = zc1 at *
      generalize z2.a = za2 at *
      generalize z2.c = zc2 at *
      go_wp2_with fail
      go_region_held3 (fun W => W.cell? ⟨b, 0, none⟩ = some (.slice (some ⟨B1, o1, none⟩) m1 k1) ∧ W.cell? ⟨b + 1, 0, none⟩ = some (.slice (some ⟨B2, o2, none⟩) m1 j1) ∧ W.cell? ⟨B1, o1 + k, none⟩ = some (.slice za1 zn1 zc1) ∧ W.cell? ⟨B2, o2 + k, none⟩ = some (.slice za2 zn1 zc2)) (go_keep) (first
        | (go_at_call 51; refine (KS.out _ HBx.out).mono ?_; rintro e wy ⟨rfl, HY⟩; have q0 : wy.cell? ⟨b, 0, none⟩ = some (.slice (some ⟨B1, o1, none⟩) m1 k1) := (HY.out.cell (p := ⟨b, 0, none⟩) hbx).trans x0; have q1 : wy.cell? ⟨b + 1, 0, none⟩ = some (.slice (some ⟨B2, o2, none⟩) m1 j1) := (HY.out.cell (p := ⟨b + 1, 0, none⟩) hby).trans y0; have q2 : wy.cell? ⟨B1, o1 + k, none⟩ = some (.slice za1 zn1 zc1) := (HY.out.cell (p := ⟨B1, o1 + k, none⟩) hl1).trans hz1; have q3 : wy.cell? ⟨B2, o2 + k, none⟩ = some (.slice za2 zn1 zc2) := (HY.out.cell (p := ⟨B2, o2 + k, none⟩) hl2).trans hz2))
      have H2 : Hid (SdSt w wy b ⟨⟨some ⟨B1, o1, none⟩, m1, k1⟩, ⟨a2, m2, k2⟩, ⟨a3, m3, k3⟩, ⟨a4, m4, k4⟩⟩ ⟨⟨some ⟨B2, o2, none⟩, m1, j1⟩, ⟨b2, m2, j2⟩, ⟨b3, m3, j3⟩, ⟨b4, m4, j4⟩⟩ d) := H.out.go (HBx.out.trans HY.out)
      clear q0 q1 q2 q3 x0 y0 hz1 hz2 HY KS H HBx
      go_wp2_with fail
      exact ⟨⟨k + 1, by omega, by go_num, H2⟩, by simp [intOf]; omega⟩
    · have hge : ¬ (k : Int) < (m1 : Int) := by omega
      go_wp2_with fail
      obtain ⟨wz, hz⟩ : ∃ z, z = wr := ⟨_, rfl⟩
      subst hz
      clear x0 y0
      go_loopw [6] (fun v wr => ∃ k : Nat, k ≤ m2 ∧ v = .int .i64 (k : Int) ∧ Hid (SdSt w wr b ⟨⟨a1, m1, k1⟩, ⟨a2, m2, k2⟩, ⟨a3, m3, k3⟩, ⟨a4, m4, k4⟩⟩ ⟨⟨b1, m1, j1⟩, ⟨b2, m2, j2⟩, ⟨b3, m3, j3⟩, ⟨b4, m4, j4⟩⟩ d)) (fun v _ => m2 - (intOf v).toNat)
      case atStart => exact ⟨0, Nat.zero_le _, rfl, H⟩
      case round =>
        obtain ⟨i, hi, rfl, H'⟩ := hrel
        clear H
        have x1 := H'.out.1.2.1
        have y1 := H'.out.2.1.2.1
        simp only at x1 y1
        by_cases hit : i < m2
        · have hit' : (i : Int) < (m2 : Int) := by omega
          have hii : i < d.us.length := by rw [HN.out.2]; exact hit
          obtain ⟨B1, o1, ha1, hl1, hz1⟩ := H'.out.2.2.1.h2.at i hii
          obtain ⟨B2, o2, ha2, hl2, hz2⟩ := H'.out.2.2.2.1.h2.at i hii
          simp only at ha1 ha2
          subst ha1 ha2
          generalize d.us[i] = u at *
          go_wp2_with fail
          go_quiet (fail)
          have H2 : Hid (SdSt w (wr.drewN nq) b ⟨⟨a1, m1, k1⟩, ⟨some ⟨B1, o1, none⟩, m2, k2⟩, ⟨a3, m3, k3⟩, ⟨a4, m4, k4⟩⟩ ⟨⟨b1, m1, j1⟩, ⟨some ⟨B2, o2, none⟩, m2, j2⟩, ⟨b3, m3, j3⟩, ⟨b4, m4, j4⟩⟩ d) := H'.out.go ⟨rfl, rfl, rfl, Nat.le_refl _, fun _ _ => rfl⟩
          clear x1 y1 hz1 hz2 H'
          generalize wr.drewN nq = Wq at *
          go_wp2_with fail
          exact ⟨⟨i + 1, by omega, by go_num, H2⟩, by simp [intOf]; omega⟩
        · have hige : ¬ (i : Int) < (m2 : Int) := by omega
          go_wp2_with fail
          go_ret
          exact ⟨rfl, H'.out.2.2.2.2⟩
end Go.Proofs.YtfkfjodfjgjbkaaGreatDoor
namespace Go.Proofs.YtfkfjodfjgjbkaaGreatDoor
open Go.ChangeShapes Go.WideShapes Go.ChangeAt Go.RowKit
set_option linter.unusedVariables false
set_option linter.unusedSimpArgs false
theorem RX.grown {w0 w w' : World} {wa : Option Addr} {n c : Nat} {oa : Option Addr} {on oc : Nat} {x : DA} {bad : Bool} {d : Dat} (h : RX w0 w wa n c oa on oc x bad d) {o : Option Nat} (hg : w.grownBy w' o) (ho : ∀ j, o = some j → w0.heap.size + 1 ≤ j) :
    RBk w0 w' wa n c oa on oc x bad ∧ Below w0.heap.size w0 w' :=
  ⟨(hg.block _ h.blk.lt (fun e => by have := ho _ e.symm; omega)).trans h.blk, h.bel.grown hg h.bel.size (fun j e => by have := ho _ e; omega)⟩
theorem RX.bad {w0 w : World} {wa : Option Addr} {n c : Nat} {oa : Option Addr} {on oc : Nat} {x : DA} {bad : Bool} {d : Dat} (h : RX w0 w wa n c oa on oc x bad d) (b : Bool) : RX w0 (w.setCell ⟨w0.heap.size, 6, none⟩ (.bool b)) wa n c oa on oc x b d :=
  have H := h.set 6 _ (h.blk.set6 b)
  ⟨H.1, H.2.1, H.2.2⟩
end Go.Proofs.YtfkfjodfjgjbkaaGreatDoor
