/- Texts laid together, in parts: Hq Tk Sd Hw Rk Vr Mpa Sqc Sqd Sqj Mba Ak Bwl Mpb Va Vp Vb. -/
import Derived.Test.YteplffhfeoephaaGreatWbd
import Derived.Deep.CutBlock
import Derived.Deep.QuietTactic
import Derived.BigQuiet
import Derived.WalkSpells
import Derived.Lib.Hide
import Derived.WalkSmall
import Derived.WalkMore
import Derived.Maps.OwnSet
import Derived.LaidEqlPtr
import Derived.BigRegion
import Derived.Deep.RegionHeld3
import Derived.Laws.BitsAllLaws
import Derived.WalkKit
set_option maxRecDepth 100000
set_option linter.unusedVariables false
set_option linter.unusedSimpArgs false
namespace Go.Proofs.YteplffhfeoephaaGreat
open Go.ChangeShapes Go.WideShapes Go.ChangeAt Go.RowKit
theorem nread_small (zs : List Int) (p : Int) : (nread zs p).1.length <= 255 := by
 unfold nread
 split
 · simp
 · split
   · simp
   · split
     · rename_i h
       have h1 := (nck_small h).1
       have h2 := nsz_len ‹List ByteArray›
       simp only
       omega
     · simp
theorem pnms_small (zs : List Int) (len : Nat) (st : Option Nat) : ∀ k, ∀ n ∈ (pnms zs len st k).1, n.length <= 255
 | 0 => by simp [pnms]
 | k + 1 => by
   intro n hn
   simp only [pnms, List.mem_append, List.mem_singleton] at hn
   rcases hn with hn | hn
   · exact pnms_small zs len st k n hn
   · subst hn; exact nread_small _ _
theorem ptxF_small (zs : List Int) : ∀ (k : Nat) (st : Option Nat), (ptxF zs zs.length k st).1.length <= k /\ ∀ s ∈ (ptxF zs zs.length k st).1, s.size <= zs.length
 | 0, st => by simp [ptxF]
 | k + 1, st => by
   by_cases h : 0 < lft zs.length st
   · have ih := ptxF_small zs k (mv zs.length (mv zs.length st 1) (val (tk zs st 1)))
     unfold ptxF
     rw [if_pos h]
     refine ⟨by simp; exact ih.1, ?_⟩
     intro s hs
     simp only [List.mem_cons] at hs
     rcases hs with rfl | hs
     · rw [lb_size]; exact tk_size zs zs.length rfl _ _
     · exact ih.2 s hs
   · rw [ptxF_end zs zs.length (k + 1) st h]; simp
theorem tsum_small (l : List ByteArray) (m : Nat) (h : ∀ s ∈ l, s.size <= m) : (l.map tz).sum <= l.length * (m + 1) := by
 have := sum_le (l.map tz) (m + 1) (by
   intro x hx
   obtain ⟨s, hs, rfl⟩ := List.mem_map.1 hx
   have := h s hs
   simp only [tz]; omega)
 simpa using this
theorem pread_bd (t : Nat) (zs : List Int) (hl : zs.length <= 65535) : Bd (pread (fs t) zs zs.length).1 := by
 have hfc : (fs t).nf <= (fs t).nn /\ (fs t).nn <= 2 /\ (fs t).nu <= 5 := by
   rcases fs_cases t with ⟨_, e⟩ | ⟨_, e⟩ | ⟨_, e⟩ | ⟨_, e⟩ | ⟨_, e⟩ | ⟨_, e⟩ | ⟨_, e⟩ | ⟨_, e⟩ | ⟨_, e⟩ <;> rw [e] <;> simp
 refine ⟨?_, ?_, ?_, ?_, ?_⟩
 · show (_ ++ _ : List (List ByteArray)).length <= 1000
   rw [List.length_append, pnms_len, pnms_len]; omega
 · intro x hx
   have hx' : x ∈ (_ ++ _ : List (List ByteArray)) := hx
   rcases List.mem_append.1 hx' with h | h
   · have := pnms_small _ _ _ _ x h; omega
   · have := pnms_small _ _ _ _ x h; omega
 · show (pnus _ _ _ _ _).1.length <= 1000
   rw [pnus_len]; omega
 · have h : ∀ st, ((ptxs (fs t) zs zs.length st).1.length <= 65537 /\ ∀ s ∈ (ptxs (fs t) zs zs.length st).1, s.size <= 65535) := by
     intro st
     unfold ptxs
     split
     · have := ptxF_small zs (zs.length + 1) st
       exact ⟨by omega, fun s hs => by have := this.2 s hs; omega⟩
     · split
       · refine ⟨by rw [ptx2_len]; omega, ?_⟩
         intro s hs
         simp only [ptx2, List.mem_cons, List.not_mem_nil, or_false] at hs
         rcases hs with rfl | rfl
         · have := tk_size zs zs.length rfl (mv zs.length st 1) (val (tk zs st 1))
           rw [lb_size]; omega
         · have := tk_size zs zs.length rfl (mv zs.length (mv zs.length st 1) (val (tk zs st 1))) (lft zs.length (mv zs.length (mv zs.length st 1) (val (tk zs st 1))))
           rw [lb_size]; omega
       · simp
   have h2 := h (pnms zs zs.length (pnus zs zs.length (pnms zs zs.length (some 0) (fs t).nf).2 (fs t).wd (fs t).nu).2 ((fs t).nn - (fs t).nf)).2
   have h3 := tsum_small _ 65535 h2.2
   show ((ptxs (fs t) zs zs.length (pnms zs zs.length (pnus zs zs.length (pnms zs zs.length (some 0) (fs t).nf).2 (fs t).wd (fs t).nu).2 ((fs t).nn - (fs t).nf)).2).1.map tz).sum <= _
   have h4 := Nat.mul_le_mul_right (65535 + 1) h2.1
   omega
 · show (List.length (if (fs t).nr = 0 then (([] : List Int), _) else (_, _)).1) <= _
   split
   · simp
   · have := tk_size zs zs.length rfl (ptxs (fs t) zs zs.length (pnms zs zs.length (pnus zs zs.length (pnms zs zs.length (some 0) (fs t).nf).2 (fs t).wd (fs t).nu).2 ((fs t).nn - (fs t).nf)).2).2 (lft zs.length (ptxs (fs t) zs zs.length (pnms zs zs.length (pnus zs zs.length (pnms zs zs.length (some 0) (fs t).nf).2 (fs t).wd (fs t).nu).2 ((fs t).nn - (fs t).nf)).2).2)
     simp only
     omega
def nilD : Dat := ⟨[], [], [], []⟩
def readF (t : Nat) (zs : List Int) : Dat × Int := if mayT t then (if zs.length <= 65535 then (match dreadF t zs with | some d => (d, 0) | none => (nilD, 8)) else (nilD, 8)) else (nilD, 6)
def RdP (r : Dat × Int) (w : World) (e : Ending) (w' : World) : Prop := ∃ x : DA, e = .returned (.tuple #[.agg #[.slice x.p1.a x.p1.n x.p1.c, .slice x.p2.a x.p2.n x.p2.c, .slice x.p3.a x.p3.n x.p3.c, .slice x.p4.a x.p4.n x.p4.c], .int .i64 r.2]) /\ Hid (DOwn w.heap.size w' x r.1 /\ Below w.heap.size w w')
theorem nil_down (B : Nat) (w : World) : DOwn B w nilDA nilD := ⟨OwnN.nil B w, nil_uown B w, ⟨[], OwnT.nil _ _ _, rfl⟩, bown_nil _ _⟩
theorem rdp_nil {w w' : World} {c : Int} (hb : Below w.heap.size w w') : RdP (nilD, c) w (.returned (.tuple #[.agg #[.slice none 0 0, .slice none 0 0, .slice none 0 0, .slice none 0 0], .int .i64 c])) w' := ⟨nilDA, rfl, nil_down _ _, hb⟩
theorem readF_at (t : Nat) (zs : List Int) (hb : ∀ z ∈ zs, 0 <= z /\ z <= 255) (hm : mayT t = true) (hl : zs.length <= 65535) : readF t zs = if (pread (fs t) zs zs.length).2 = some zs.length then (if checkF t (pread (fs t) zs zs.length).1 = 0 then ((pread (fs t) zs zs.length).1, 0) else (nilD, 8)) else (nilD, 8) := by
 unfold readF
 rw [if_pos hm, if_pos hl, <- pread_doc t zs hb]
 by_cases h1 : (pread (fs t) zs zs.length).2 = some zs.length
 · by_cases h2 : checkF t (pread (fs t) zs zs.length).1 = 0
   · rw [if_pos ⟨h1, h2⟩, if_pos h1, if_pos h2]
   · rw [if_neg (fun h => h2 h.2), if_pos h1, if_neg h2]
 · rw [if_neg (fun h => h1 h.1), if_neg h1]
set_option maxHeartbeats 4000000 in
theorem read5_no (t : Nat) (a : Option Addr) (len cap : Nat) (zs : List Int) (w : World) (hl : zs.length = len) (hlm : len <= 9223372036854775807) (h : mayT t = false ∨ 65535 < len) :
   Calls Tryz.prog 160 #[.int .u16 t, .slice a len cap] w (RdP (readF t zs) w) := by
 have KH : Hid (∀ W, Calls Tryz.prog 121 #[.int .u16 t] W fun e w' => e = .returned (.bool (mayT t)) /\ w' = W) := fun W => hasdata_any t W
 by_cases hm : mayT t = false
 · have e : readF t zs = (nilD, 6) := by unfold readF; rw [if_neg (by simp [hm])]
   rw [e]
   rw [hm] at KH
   clear e
   go_enter Tryz.func160, Tryz.ntmps160
   go_wp2_with (go_at_call 121; refine (KH.out _).mono ?_; rintro e w' ⟨rfl, rfl⟩)
   exact bodyPost_ret (v := .tuple #[.agg #[.slice none 0 0, .slice none 0 0, .slice none 0 0, .slice none 0 0], .int .i64 6]) (by simp [results, Tryz.results160, go_sem]) rfl (rdp_nil (new_below _ _))
 · have hm' : mayT t = true := by simpa using hm
   have hgt : 65535 < len := h.resolve_left hm
   have hgt' : (65535 : Int) < (len : Int) := by omega
   have e : readF t zs = (nilD, 8) := by unfold readF; rw [if_pos hm', if_neg (by omega)]
   rw [e]
   rw [hm'] at KH
   clear e
   go_enter Tryz.func160, Tryz.ntmps160
   go_wp2_with (go_at_call 121; refine (KH.out _).mono ?_; rintro e w' ⟨rfl, rfl⟩)
   exact bodyPost_ret (v := .tuple #[.agg #[.slice none 0 0, .slice none 0 0, .slice none 0 0, .slice none 0 0], .int .i64 8]) (by simp [results, Tryz.results160, go_sem]) rfl (rdp_nil (new_below _ _))
theorem ret4 {w W : World} {b : Nat} {y : DA} (h : DBlk W b y) (hb : Below w.heap.size w W) (hw : w.heap.size <= b) (x : DA) : DBlk (set4 W b x) b x /\ Below w.heap.size w (set4 W b x) :=
 ⟨set4_blk h x, (((hb.setCell (p := ⟨b, 0, none⟩) hw _).setCell (p := ⟨b, 1, none⟩) hw _).setCell (p := ⟨b, 2, none⟩) hw _).setCell (p := ⟨b, 3, none⟩) hw _⟩
theorem DOwn.ret4 {B B' : Nat} {W : World} {b : Nat} {x : DA} {d : Dat} (h : DOwn B W x d) (hb : b < B) (hB : B' <= B) : DOwn B' (set4 W b x) x d := (h.keep (fun j hj _ => set4_off W b x j (by omega))).mono hB
theorem DOwn.stays {B : Nat} {w w' : World} {x : DA} {d : Dat} (h : DOwn B w x d) (hb : Below w.heap.size w w') : DOwn B w' x d := h.keep fun j _ hj => hb.block j hj
set_option maxHeartbeats 4000000 in
theorem read5_in (t : Nat) (a : Option Addr) (len cap : Nat) (zs : List Int) (w : World) (hr : Rd w a zs) (hl : zs.length = len) (hm : len <= 65535) (hc : len <= cap /\ cap <= 9223372036854775807) (hnil : a = none -> cap = 0) (hmay : mayT t = true) :
   Calls Tryz.prog 160 #[.int .u16 t, .slice a len cap] w (RdP (readF t zs) w) := by
 have KH : Hid (∀ W, Calls Tryz.prog 121 #[.int .u16 t] W fun e w' => e = .returned (.bool true) /\ w' = W) := fun W => by have := hasdata_any t W; rw [hmay] at this; exact this
 have KO : Hid (∀ W, Calls Tryz.prog 122 #[.int .u16 t] W fun e w' => e = .returned (.agg #[.int .i64 (fs t).nn, .int .i64 (fs t).nf, .int .i64 (fs t).nu, .int .i64 (fs t).wd, .int .i64 (fs t).nt, .int .i64 (fs t).tg, .int .i64 (fs t).tl, .int .i64 (fs t).nr]) /\ Hid (Below W.heap.size W w')) := fun W => fieldsof_any t W
 have KR : Hid (∀ W, Rd W a zs -> Calls Tryz.prog 173 #[.agg #[.int .i64 (fs t).nn, .int .i64 (fs t).nf, .int .i64 (fs t).nu, .int .i64 (fs t).wd, .int .i64 (fs t).nt, .int .i64 (fs t).tg, .int .i64 (fs t).tl, .int .i64 (fs t).nr], .slice a len cap] W fun e w' => ∃ x : DA, e = .returned (.tuple #[.agg #[.slice x.p1.a x.p1.n x.p1.c, .slice x.p2.a x.p2.n x.p2.c, .slice x.p3.a x.p3.n x.p3.c, .slice x.p4.a x.p4.n x.p4.c], .bool (decide ((pread (fs t) zs len).2 = some len))]) /\ Hid (DOwn W.heap.size w' x (pread (fs t) zs len).1 /\ Below W.heap.size W w')) := fun W hW => pread_fields t a len cap zs W hW hl hm hc hnil
 have KC : Hid (∀ W x, DRd W x (pread (fs t) zs len).1 -> Calls Tryz.prog 88 #[.int .u16 t, .agg #[.slice x.p1.a x.p1.n x.p1.c, .slice x.p2.a x.p2.n x.p2.c, .slice x.p3.a x.p3.n x.p3.c, .slice x.p4.a x.p4.n x.p4.c]] W fun e w' => e = .returned (.int .i64 (checkF t (pread (fs t) zs len).1)) /\ Hid (Below W.heap.size W w')) := fun W x hd => check_any t x _ W hd (by rw [<- hl]; exact pread_bd t zs (by omega))
 have HRF := readF_at t zs hr.2 hmay (by omega)
 rw [hl] at HRF
 have HB1 := new_below w (.cells #[.slice none 0 0, .slice none 0 0, .slice none 0 0, .slice none 0 0] 59)
 have HR1 : Hid (Rd (w.alloc (.cells #[.slice none 0 0, .slice none 0 0, .slice none 0 0, .slice none 0 0] 59)) a zs) := hr.below HB1
 have HD1 : Hid (DBlk (w.alloc (.cells #[.slice none 0 0, .slice none 0 0, .slice none 0 0, .slice none 0 0] 59)) w.heap.size nilDA /\ Below w.heap.size w (w.alloc (.cells #[.slice none 0 0, .slice none 0 0, .slice none 0 0, .slice none 0 0] 59))) := ⟨heap_alloc_new _ _, HB1⟩
 have HR : Hid (readF t zs = _) := HRF
 clear HRF hr HB1
 generalize readF t zs = RR at *
 generalize checkF t (pread (fs t) zs len).1 = C at *
 generalize pread (fs t) zs len = PR at *
 generalize (fs t) = f at *
 obtain ⟨nn, nf, nu, wd, nt, tg, tl, nr⟩ := f
 obtain ⟨d, st⟩ := PR
 simp only at KO KR KC HR
 have hle : ¬ (65535 : Int) < (len : Int) := by omega
 go_enter Tryz.func160, Tryz.ntmps160
 go_wp2_with (go_at_call 121; refine (KH.out _).mono ?_; rintro e w' ⟨rfl, rfl⟩)
 generalize (w.alloc (.cells #[.slice none 0 0, .slice none 0 0, .slice none 0 0, .slice none 0 0] 59)) = W1 at *
 obtain ⟨b, hb⟩ : ∃ b, b = w.heap.size := ⟨_, rfl⟩
 rw [<- hb] at HD1 ⊢
 have Hb : Hid (b = w.heap.size) := hb
 clear hb
 refine (KO.out _).mono ?_
 rintro e W2 ⟨rfl, H2⟩
 have HD2 : Hid (DBlk W2 b nilDA /\ Below w.heap.size w W2 /\ Rd W2 a zs) := ⟨HD1.out.1.same (H2.out.block b HD1.out.1.lt), by have := HD1.out.2; rw [Hb.out] at this; exact this.trans (H2.out.mono this.size), HR1.out.below H2.out⟩
 clear HD1 HR1 H2 KO KH
 go_wp2_with fail
 refine (KR.out _ HD2.out.2.2).mono ?_
 rintro e W3 ⟨x, rfl, H3⟩
 have hn3 := new_below W3 (.cells #[.slice x.p1.a x.p1.n x.p1.c, .slice x.p2.a x.p2.n x.p2.c, .slice x.p3.a x.p3.n x.p3.c, .slice x.p4.a x.p4.n x.p4.c] 59)
 have HD3 : Hid (DBlk (W3.alloc (.cells #[.slice x.p1.a x.p1.n x.p1.c, .slice x.p2.a x.p2.n x.p2.c, .slice x.p3.a x.p3.n x.p3.c, .slice x.p4.a x.p4.n x.p4.c] 59)) b nilDA /\ DBlk (W3.alloc (.cells #[.slice x.p1.a x.p1.n x.p1.c, .slice x.p2.a x.p2.n x.p2.c, .slice x.p3.a x.p3.n x.p3.c, .slice x.p4.a x.p4.n x.p4.c] 59)) W3.heap.size x /\ Below w.heap.size w (W3.alloc (.cells #[.slice x.p1.a x.p1.n x.p1.c, .slice x.p2.a x.p2.n x.p2.c, .slice x.p3.a x.p3.n x.p3.c, .slice x.p4.a x.p4.n x.p4.c] 59)) /\ DOwn W2.heap.size (W3.alloc (.cells #[.slice x.p1.a x.p1.n x.p1.c, .slice x.p2.a x.p2.n x.p2.c, .slice x.p3.a x.p3.n x.p3.c, .slice x.p4.a x.p4.n x.p4.c] 59)) x d /\ b < W3.heap.size /\ b < W2.heap.size) := by
   obtain ⟨p1, p2, p3⟩ := HD2.out
   obtain ⟨q1, q2⟩ := H3.out
   have hbl := p1.lt
   refine ⟨(p1.same (q2.block b hbl)).same (hn3.block b (Nat.lt_of_lt_of_le hbl q2.size)), heap_alloc_new _ _, (p2.trans (q2.mono p2.size)).trans (hn3.mono (Nat.le_trans p2.size q2.size)), q1.stays hn3, Nat.lt_of_lt_of_le hbl q2.size, hbl⟩
 clear hn3 H3 KR
 have hbne : ¬ b = W3.heap.size := by have := HD3.out.2.2.2.2; omega
 have hbne2 : ¬ W3.heap.size = b := by omega
 by_cases hw : st = some len
 · have hdw : decide (st = some len) = true := by simp [hw]
   have HR2 : Hid (RR = if C = 0 then (d, 0) else (nilD, 8)) := by have := HR.out; rw [if_pos hw] at this; exact this
   clear HR hw
   rw [hdw]
   clear hdw
   go_upto_region 6 with fail
   generalize (W3.alloc (.cells #[.slice x.p1.a x.p1.n x.p1.c, .slice x.p2.a x.p2.n x.p2.c, .slice x.p3.a x.p3.n x.p3.c, .slice x.p4.a x.p4.n x.p4.c] 59)) = W4 at *
   obtain ⟨D, hD⟩ : ∃ D, D = W3.heap.size := ⟨_, rfl⟩
   rw [<- hD] at HD3 hbne hbne2 ⊢
   clear hD
   have hbl := HD3.out.2.2.2.2.2
   have KC2 := KC.out W4 x HD3.out.2.2.2.1.rd
   have HKC : Hid (Calls Tryz.prog 88 #[.int .u16 t, .agg #[.slice x.p1.a x.p1.n x.p1.c, .slice x.p2.a x.p2.n x.p2.c, .slice x.p3.a x.p3.n x.p3.c, .slice x.p4.a x.p4.n x.p4.c]] W4 fun e w' => e = .returned (.int .i64 C) /\ Hid (Below W4.heap.size W4 w')) := KC2
   clear KC KC2
   have d0 : W4.cell? ⟨D, 0, none⟩ = some (.slice x.p1.a x.p1.n x.p1.c) := HD3.out.2.1.box.1
   have d1 : W4.cell? ⟨D, 1, none⟩ = some (.slice x.p2.a x.p2.n x.p2.c) := HD3.out.2.1.box.2.1
   have d2 : W4.cell? ⟨D, 2, none⟩ = some (.slice x.p3.a x.p3.n x.p3.c) := HD3.out.2.1.box.2.2.1
   have d3 : W4.cell? ⟨D, 3, none⟩ = some (.slice x.p4.a x.p4.n x.p4.c) := HD3.out.2.1.box.2.2.2.1
   go_wp2_with fail
   refine HKC.out.mono ?_
   rintro e W5 ⟨rfl, H5⟩
   have HRB : Hid (DBlk W5 b nilDA) := HD3.out.1.same (H5.out.block b HD3.out.1.lt)
   have HBW : Hid (Below w.heap.size w W5) := HD3.out.2.2.1.trans (H5.out.mono HD3.out.2.2.1.size)
   have HDD : Hid (DBlk W5 D x) := HD3.out.2.1.same (H5.out.block D HD3.out.2.1.lt)
   have HOW : Hid (DOwn W2.heap.size W5 x d) := HD3.out.2.2.2.1.stays H5.out
   clear HKC HD3 H5 d0 d1 d2 d3
   have d0 : W5.cell? ⟨D, 0, none⟩ = some (.slice x.p1.a x.p1.n x.p1.c) := HDD.out.box.1
   have d1 : W5.cell? ⟨D, 1, none⟩ = some (.slice x.p2.a x.p2.n x.p2.c) := HDD.out.box.2.1
   have d2 : W5.cell? ⟨D, 2, none⟩ = some (.slice x.p3.a x.p3.n x.p3.c) := HDD.out.box.2.2.1
   have d3 : W5.cell? ⟨D, 3, none⟩ = some (.slice x.p4.a x.p4.n x.p4.c) := HDD.out.box.2.2.2.1
   have r0 : W5.cell? ⟨b, 0, none⟩ = some (.slice none 0 0) := HRB.out.box.1
   have r1 : W5.cell? ⟨b, 1, none⟩ = some (.slice none 0 0) := HRB.out.box.2.1
   have r2 : W5.cell? ⟨b, 2, none⟩ = some (.slice none 0 0) := HRB.out.box.2.2.1
   have r3 : W5.cell? ⟨b, 3, none⟩ = some (.slice none 0 0) := HRB.out.box.2.2.2.1
   have z0 := HRB.out.fz 0
   have z1 := HRB.out.fz 1
   have z2 := HRB.out.fz 2
   have z3 := HRB.out.fz 3
   have hl5 := HRB.out.lt
   by_cases hC : C = 0
   · have hC' : (C != 0) = false := by simp [hC]
     have HR2' : Hid (RR = (d, 0)) := by have := HR2.out; rw [if_pos hC] at this; exact this
     clear HR2
     have HR2 : Hid (RR = (d, 0)) := HR2'.out
     clear HR2'
     have HC0 : Hid (C = 0) := hC
     clear hC
     go_wp2_with fail
     have HX : Hid (DBlk ((((W5.setCell ⟨b, 0, none⟩ (.slice x.p1.a x.p1.n x.p1.c)).setCell ⟨b, 1, none⟩ (.slice x.p2.a x.p2.n x.p2.c)).setCell ⟨b, 2, none⟩ (.slice x.p3.a x.p3.n x.p3.c)).setCell ⟨b, 3, none⟩ (.slice x.p4.a x.p4.n x.p4.c)) b x /\ Below w.heap.size w ((((W5.setCell ⟨b, 0, none⟩ (.slice x.p1.a x.p1.n x.p1.c)).setCell ⟨b, 1, none⟩ (.slice x.p2.a x.p2.n x.p2.c)).setCell ⟨b, 2, none⟩ (.slice x.p3.a x.p3.n x.p3.c)).setCell ⟨b, 3, none⟩ (.slice x.p4.a x.p4.n x.p4.c))) := ret4 HRB.out HBW.out (by have := Hb.out; omega) x
     have HY : Hid (DOwn w.heap.size ((((W5.setCell ⟨b, 0, none⟩ (.slice x.p1.a x.p1.n x.p1.c)).setCell ⟨b, 1, none⟩ (.slice x.p2.a x.p2.n x.p2.c)).setCell ⟨b, 2, none⟩ (.slice x.p3.a x.p3.n x.p3.c)).setCell ⟨b, 3, none⟩ (.slice x.p4.a x.p4.n x.p4.c)) x d) := (HOW.out).ret4 (by omega) (by have := Hb.out; omega)
     clear HRB HBW
     generalize ((((W5.setCell ⟨b, 0, none⟩ (.slice x.p1.a x.p1.n x.p1.c)).setCell ⟨b, 1, none⟩ (.slice x.p2.a x.p2.n x.p2.c)).setCell ⟨b, 2, none⟩ (.slice x.p3.a x.p3.n x.p3.c)).setCell ⟨b, 3, none⟩ (.slice x.p4.a x.p4.n x.p4.c)) = W9 at *
     have k0 := HX.out.1.box.1
     have k1 := HX.out.1.box.2.1
     have k2 := HX.out.1.box.2.2.1
     have k3 := HX.out.1.box.2.2.2.1
     try simp only at k0 k1 k2 k3
     exact bodyPost_ret (v := .tuple #[.agg #[.slice x.p1.a x.p1.n x.p1.c, .slice x.p2.a x.p2.n x.p2.c, .slice x.p3.a x.p3.n x.p3.c, .slice x.p4.a x.p4.n x.p4.c], .int .i64 0]) (by simp [results, Tryz.results160, go_sem, k0, k1, k2, k3]) rfl (by rw [HR2.out]; exact ⟨x, rfl, HY.out, HX.out.2⟩)
   · have hC' : (C != 0) = true := by simp [hC]
     have HR2' : Hid (RR = (nilD, 8)) := by have := HR2.out; rw [if_neg hC] at this; exact this
     clear HR2
     have HR2 : Hid (RR = (nilD, 8)) := HR2'.out
     clear HR2'
     clear hC
     go_wp2_with fail
     have HX : Hid (DBlk ((((W5.setCell ⟨b, 0, none⟩ (.slice none 0 0)).setCell ⟨b, 1, none⟩ (.slice none 0 0)).setCell ⟨b, 2, none⟩ (.slice none 0 0)).setCell ⟨b, 3, none⟩ (.slice none 0 0)) b nilDA /\ Below w.heap.size w ((((W5.setCell ⟨b, 0, none⟩ (.slice none 0 0)).setCell ⟨b, 1, none⟩ (.slice none 0 0)).setCell ⟨b, 2, none⟩ (.slice none 0 0)).setCell ⟨b, 3, none⟩ (.slice none 0 0))) := ret4 HRB.out HBW.out (by have := Hb.out; omega) nilDA
     have HY : Hid (DOwn w.heap.size ((((W5.setCell ⟨b, 0, none⟩ (.slice none 0 0)).setCell ⟨b, 1, none⟩ (.slice none 0 0)).setCell ⟨b, 2, none⟩ (.slice none 0 0)).setCell ⟨b, 3, none⟩ (.slice none 0 0)) nilDA nilD) := nil_down _ _
     clear HRB HBW
     generalize ((((W5.setCell ⟨b, 0, none⟩ (.slice none 0 0)).setCell ⟨b, 1, none⟩ (.slice none 0 0)).setCell ⟨b, 2, none⟩ (.slice none 0 0)).setCell ⟨b, 3, none⟩ (.slice none 0 0)) = W9 at *
     have k0 := HX.out.1.box.1
     have k1 := HX.out.1.box.2.1
     have k2 := HX.out.1.box.2.2.1
     have k3 := HX.out.1.box.2.2.2.1
     try simp only at k0 k1 k2 k3
     exact bodyPost_ret (v := .tuple #[.agg #[.slice none 0 0, .slice none 0 0, .slice none 0 0, .slice none 0 0], .int .i64 8]) (by simp [results, Tryz.results160, go_sem, k0, k1, k2, k3]) rfl (by rw [HR2.out]; exact ⟨nilDA, rfl, HY.out, HX.out.2⟩)
 · have hdw : decide (st = some len) = false := by simp [hw]
   have HR2 : Hid (RR = (nilD, 8)) := by have := HR.out; rw [if_neg hw] at this; exact this
   clear HR hw KC
   rw [hdw]
   clear hdw
   go_upto_region 6 with fail
   generalize (W3.alloc (.cells #[.slice x.p1.a x.p1.n x.p1.c, .slice x.p2.a x.p2.n x.p2.c, .slice x.p3.a x.p3.n x.p3.c, .slice x.p4.a x.p4.n x.p4.c] 59)) = W4 at *
   obtain ⟨D, hD⟩ : ∃ D, D = W3.heap.size := ⟨_, rfl⟩
   rw [<- hD] at HD3 hbne hbne2 ⊢
   clear hD
   have hbl := HD3.out.2.2.2.2.2
   have HRB : Hid (DBlk W4 b nilDA) := HD3.out.1
   have HBW : Hid (Below w.heap.size w W4) := HD3.out.2.2.1
   have r0 : W4.cell? ⟨b, 0, none⟩ = some (.slice none 0 0) := HRB.out.box.1
   have r1 : W4.cell? ⟨b, 1, none⟩ = some (.slice none 0 0) := HRB.out.box.2.1
   have r2 : W4.cell? ⟨b, 2, none⟩ = some (.slice none 0 0) := HRB.out.box.2.2.1
   have r3 : W4.cell? ⟨b, 3, none⟩ = some (.slice none 0 0) := HRB.out.box.2.2.2.1
   have z0 := HRB.out.fz 0
   have z1 := HRB.out.fz 1
   have z2 := HRB.out.fz 2
   have z3 := HRB.out.fz 3
   have hl5 := HRB.out.lt
   go_wp2_with fail
   have HX : Hid (DBlk ((((W4.setCell ⟨b, 0, none⟩ (.slice none 0 0)).setCell ⟨b, 1, none⟩ (.slice none 0 0)).setCell ⟨b, 2, none⟩ (.slice none 0 0)).setCell ⟨b, 3, none⟩ (.slice none 0 0)) b nilDA /\ Below w.heap.size w ((((W4.setCell ⟨b, 0, none⟩ (.slice none 0 0)).setCell ⟨b, 1, none⟩ (.slice none 0 0)).setCell ⟨b, 2, none⟩ (.slice none 0 0)).setCell ⟨b, 3, none⟩ (.slice none 0 0))) := ret4 HRB.out HBW.out (by have := Hb.out; omega) nilDA
   have HY : Hid (DOwn w.heap.size ((((W4.setCell ⟨b, 0, none⟩ (.slice none 0 0)).setCell ⟨b, 1, none⟩ (.slice none 0 0)).setCell ⟨b, 2, none⟩ (.slice none 0 0)).setCell ⟨b, 3, none⟩ (.slice none 0 0)) nilDA nilD) := nil_down _ _
   clear HRB HBW
   generalize ((((W4.setCell ⟨b, 0, none⟩ (.slice none 0 0)).setCell ⟨b, 1, none⟩ (.slice none 0 0)).setCell ⟨b, 2, none⟩ (.slice none 0 0)).setCell ⟨b, 3, none⟩ (.slice none 0 0)) = W9 at *
   have k0 := HX.out.1.box.1
   have k1 := HX.out.1.box.2.1
   have k2 := HX.out.1.box.2.2.1
   have k3 := HX.out.1.box.2.2.2.1
   try simp only at k0 k1 k2 k3
   exact bodyPost_ret (v := .tuple #[.agg #[.slice none 0 0, .slice none 0 0, .slice none 0 0, .slice none 0 0], .int .i64 8]) (by simp [results, Tryz.results160, go_sem, k0, k1, k2, k3]) rfl (by rw [HR2.out]; exact ⟨nilDA, rfl, HY.out, HX.out.2⟩)
theorem read5_any (t : Nat) (a : Option Addr) (len cap : Nat) (zs : List Int) (w : World) (hr : Rd w a zs) (hl : zs.length = len) (hc : len <= cap /\ cap <= 9223372036854775807) (hnil : a = none -> cap = 0) :
   Calls Tryz.prog 160 #[.int .u16 t, .slice a len cap] w (RdP (readF t zs) w) := by
 by_cases h : mayT t = true /\ len <= 65535
 · exact read5_in t a len cap zs w hr hl h.2 hc hnil h.1
 · refine read5_no t a len cap zs w hl (by omega) ?_
   by_cases hm : mayT t = true
   · exact .inr (Nat.lt_of_not_le (fun h2 => h ⟨hm, h2⟩))
   · exact .inl (by simpa using hm)
end Go.Proofs.YteplffhfeoephaaGreat
namespace Go.Proofs.YteplffhfeoephaaGreat
open Go.ChangeShapes Go.WideShapes Go.ChangeAt Go.RowKit
def Owx1 (B : Nat) (w : World) (s : Sl) (nm : List ByteArray) : Prop := ∃ ys, OwnT B w (.slice s.a s.n s.c) nm.length ys 9223372036854775807 /\ ys.take nm.length = nm
theorem Owx1.keep {B : Nat} {w w' : World} {s : Sl} {nm : List ByteArray} (h : Owx1 B w s nm) (hb : ∀ j, B <= j -> j < w.heap.size -> (∃ zs, BlkV w j 9 zs) -> w'.heap[j]? = w.heap[j]?) : Owx1 B w' s nm := by
 obtain ⟨ys, ⟨h1, h2⟩, h3⟩ := h
 refine ⟨ys, ⟨?_, h2⟩, h3⟩
 rcases h1 with h1 | ⟨g, e, hg, hblk, hn⟩
 · exact .inl h1
 · exact .inr ⟨g, e, hg, hblk.same (hb g hg hblk.lt ⟨_, hblk⟩), hn⟩
theorem Owx1.rd {B : Nat} {w : World} {s : Sl} {nm : List ByteArray} (h : Owx1 B w s nm) : TRd w s nm := by
 obtain ⟨ys, h1, h3⟩ := h
 obtain ⟨ao, e, hnil⟩ := h1.shape
 have hle := h1.le
 obtain ⟨sa, sn, sc⟩ := s
 simp only at e h1
 injection e with e1 e2 e3
 subst e1 e2 e3
 have hrd := h1.rd nm.length
 rw [h3] at hrd
 refine ⟨hrd, rfl, ⟨hle.1, by have := hle.2; simp only [maxLen] at this; exact this⟩, hnil, fun x hx => ?_⟩
 have : x ∈ ys := by rw [<- h3] at hx; exact List.mem_of_mem_take hx
 have := h1.2 x this
 omega
def OwxN (B : Nat) (w : World) (v : Value) (nss : List (List ByteArray)) : Prop :=
 ∃ xs, OwnV B w 53 v nss.length xs /\ ∀ i (hi : i < nss.length), ∃ s : Sl, xs[i]? = some (.slice s.a s.n s.c) /\ Owx1 B w s nss[i]
theorem OwxN.keep {B : Nat} {w w' : World} {v : Value} {nss : List (List ByteArray)} (h : OwxN B w v nss) (hb : ∀ j, B <= j -> j < w.heap.size -> w'.heap[j]? = w.heap[j]?) : OwxN B w' v nss := by
 obtain ⟨xs, h1, h2⟩ := h
 refine ⟨xs, h1.keep (fun j e hj => hb j (h1.lt j e) hj), fun i hi => ?_⟩
 obtain ⟨s, e1, e2⟩ := h2 i hi
 exact ⟨s, e1, e2.keep (fun j h1 h2 _ => hb j h1 h2)⟩
theorem OwxN.rd {B : Nat} {w : World} {s : Sl} {nss : List (List ByteArray)} (h : OwxN B w (.slice s.a s.n s.c) nss) : NRd w s nss := by
 obtain ⟨a, n, c⟩ := s
 obtain ⟨xs, h1, h2⟩ := h
 rcases h1 with ⟨e, e0, rfl⟩ | ⟨g, e, hg, hblk, hn, hm⟩
 · injection e with e1 e2 e3
   simp only at e1 e2 e3
   subst e1 e2 e3
   exact ⟨.inl (List.eq_nil_of_length_eq_zero e0), e0, ⟨Nat.le_refl _, Nat.zero_le _⟩, fun _ => rfl⟩
 · injection e with e1 e2 e3
   simp only at e1 e2 e3
   subst e1 e2 e3
   refine ⟨.inr ⟨g, 0, rfl, hblk.lt, fun i hi => ?_⟩, rfl, ⟨hn, by simp only [maxLen] at hm; exact hm⟩, by simp⟩
   obtain ⟨s, e1, e2⟩ := h2 i hi
   refine ⟨s, ?_, e2.rd⟩
   rw [Nat.zero_add, hblk.cell i (by omega)]
   rw [List.getElem?_eq_getElem (by omega)] at e1
   exact e1
def DOwx (B : Nat) (w : World) (x : DA) (d : Dat) : Prop := OwxN B w (.slice x.p1.a x.p1.n x.p1.c) d.ns /\ UOwn B w x.p2 d.us /\ Owx1 B w x.p3 d.ts /\ BOwn B w x.p4 d.raw
theorem DOwx.keep {B : Nat} {w w' : World} {x : DA} {d : Dat} (h : DOwx B w x d) (hb : ∀ j, B <= j -> j < w.heap.size -> w'.heap[j]? = w.heap[j]?) : DOwx B w' x d :=
 ⟨h.1.keep hb, h.2.1.keep hb, h.2.2.1.keep (fun j h1 h2 _ => hb j h1 h2), h.2.2.2.keep hb⟩
theorem DOwx.rd {B : Nat} {w : World} {x : DA} {d : Dat} (h : DOwx B w x d) : DRd w x d := ⟨h.1.rd, h.2.1.rd, h.2.2.1.rd, h.2.2.2.rd⟩
theorem OwxN.kept {B g : Nat} {w w' : World} {v : Value} {nss : List (List ByteArray)} (h : OwxN B w v nss) (hg : w.grownBy w' (some g)) (hB : g < B) : OwxN B w' v nss := h.keep fun j h1 h2 => hg.block j h2 (fun e => by cases e; omega)
theorem Owx1.kept {B g : Nat} {w w' : World} {s : Sl} {nm : List ByteArray} (h : Owx1 B w s nm) (hg : w.grownBy w' (some g)) (hB : g < B) : Owx1 B w' s nm := h.keep fun j h1 h2 _ => hg.block j h2 (fun e => by cases e; omega)
theorem Owx1.mono {B B' : Nat} {w : World} {s : Sl} {nm : List ByteArray} (h : Owx1 B w s nm) (hB : B' <= B) : Owx1 B' w s nm := by
 obtain ⟨ys, h1, h2⟩ := h
 exact ⟨ys, h1.mono hB, h2⟩
theorem OwxN.mono {B B' : Nat} {w : World} {v : Value} {nss : List (List ByteArray)} (h : OwxN B w v nss) (hB : B' <= B) : OwxN B' w v nss := by
 obtain ⟨xs, h1, h2⟩ := h
 refine ⟨xs, h1.mono hB, fun i hi => ?_⟩
 obtain ⟨s, e1, e2⟩ := h2 i hi
 exact ⟨s, e1, e2.mono hB⟩
theorem DOwx.mono {B B' : Nat} {w : World} {x : DA} {d : Dat} (h : DOwx B w x d) (hB : B' <= B) : DOwx B' w x d := ⟨h.1.mono hB, h.2.1.mono hB, h.2.2.1.mono hB, h.2.2.2.mono hB⟩
theorem DOwx.ret4 {B B' : Nat} {W : World} {b : Nat} {x : DA} {d : Dat} (h : DOwx B W x d) (hb : b < B) (hB : B' <= B) : DOwx B' (set4 W b x) x d := (h.keep (fun j hj _ => set4_off W b x j (by omega))).mono hB
end Go.Proofs.YteplffhfeoephaaGreat
namespace Go.Proofs.YteplffhfeoephaaGreat
open Go.ChangeShapes Go.WideShapes Go.ChangeAt Go.RowKit
def SdSt (w W : World) (b : Nat) (x y : DA) (d : Dat) : Prop := DBox W b x /\ DBox W (b + 1) y /\ DRd W x d /\ DRd W y d /\ Below w.heap.size w W
theorem SdSt.go {w W W' : World} {b : Nat} {x y : DA} {d : Dat} (h : SdSt w W b x y d) (hb : Below W.heap.size W W') : SdSt w W' b x y d :=
 ⟨h.1.below hb, h.2.1.below hb, h.2.2.1.below hb, h.2.2.2.1.below hb, h.2.2.2.2.trans (hb.mono h.2.2.2.2.size)⟩
set_option maxHeartbeats 2000000 in
theorem samedata_yes (x y : DA) (d : Dat) (w : World) (hx : DRd w x d) (hy : DRd w y d) :
   Calls Tryz.prog 129 #[.agg #[.slice x.p1.a x.p1.n x.p1.c, .slice x.p2.a x.p2.n x.p2.c, .slice x.p3.a x.p3.n x.p3.c, .slice x.p4.a x.p4.n x.p4.c], .agg #[.slice y.p1.a y.p1.n y.p1.c, .slice y.p2.a y.p2.n y.p2.c, .slice y.p3.a y.p3.n y.p3.c, .slice y.p4.a y.p4.n y.p4.c]] w fun e w' => e = .returned (.bool true) /\ Hid (Below w.heap.size w w') := by
 have hb1 : Below w.heap.size w (w.alloc (.cells #[.slice x.p1.a x.p1.n x.p1.c, .slice x.p2.a x.p2.n x.p2.c, .slice x.p3.a x.p3.n x.p3.c, .slice x.p4.a x.p4.n x.p4.c] 59)) := (Below.refl _ _).alloc (Nat.le_refl _) _
 have HX := DBox.new w x
 have hx1 := hx.below hb1
 have hy1 := hy.below hb1
 have e1 : y.p1.n = x.p1.n := by rw [<- hx.h1.len, <- hy.h1.len]
 have e2 : y.p2.n = x.p2.n := by rw [<- hx.h2.len, <- hy.h2.len]
 have e3 : y.p3.n = x.p3.n := by rw [<- hx.h3.len, <- hy.h3.len]
 have e4 : y.p4.n = x.p4.n := by rw [<- hx.h4.len, <- hy.h4.len]
 obtain ⟨W0, hW0⟩ : ∃ W, W = w.alloc (.cells #[.slice x.p1.a x.p1.n x.p1.c, .slice x.p2.a x.p2.n x.p2.c, .slice x.p3.a x.p3.n x.p3.c, .slice x.p4.a x.p4.n x.p4.c] 59) := ⟨_, rfl⟩
 have hs0 : W0.heap.size = w.heap.size + 1 := by rw [hW0]; simp
 rw [<- hW0] at hb1 HX hx1 hy1
 have hb2 : Below W0.heap.size W0 (W0.alloc (.cells #[.slice y.p1.a y.p1.n y.p1.c, .slice y.p2.a y.p2.n y.p2.c, .slice y.p3.a y.p3.n y.p3.c, .slice y.p4.a y.p4.n y.p4.c] 59)) := (Below.refl _ _).alloc (Nat.le_refl _) _
 have HY := DBox.new W0 y
 have H : Hid (∃ b c, b = w.heap.size /\ c = w.heap.size + 1 /\ DBox (W0.alloc (.cells #[.slice y.p1.a y.p1.n y.p1.c, .slice y.p2.a y.p2.n y.p2.c, .slice y.p3.a y.p3.n y.p3.c, .slice y.p4.a y.p4.n y.p4.c] 59)) b x /\ DBox (W0.alloc (.cells #[.slice y.p1.a y.p1.n y.p1.c, .slice y.p2.a y.p2.n y.p2.c, .slice y.p3.a y.p3.n y.p3.c, .slice y.p4.a y.p4.n y.p4.c] 59)) c y /\
     DRd (W0.alloc (.cells #[.slice y.p1.a y.p1.n y.p1.c, .slice y.p2.a y.p2.n y.p2.c, .slice y.p3.a y.p3.n y.p3.c, .slice y.p4.a y.p4.n y.p4.c] 59)) x d /\ DRd (W0.alloc (.cells #[.slice y.p1.a y.p1.n y.p1.c, .slice y.p2.a y.p2.n y.p2.c, .slice y.p3.a y.p3.n y.p3.c, .slice y.p4.a y.p4.n y.p4.c] 59)) y d /\ Below w.heap.size w (W0.alloc (.cells #[.slice y.p1.a y.p1.n y.p1.c, .slice y.p2.a y.p2.n y.p2.c, .slice y.p3.a y.p3.n y.p3.c, .slice y.p4.a y.p4.n y.p4.c] 59))) :=
   ⟨w.heap.size, w.heap.size + 1, rfl, rfl, HX.below hb2, by rw [<- hs0]; exact HY, hx1.below hb2, hy1.below hb2, hb1.trans (hb2.mono hb1.size)⟩
 clear hx hy hb1 HX hx1 hy1 hb2 HY hs0
 rw [hW0] at H
 clear hW0 W0
 obtain ⟨⟨a1, n1, k1⟩, ⟨a2, n2, k2⟩, ⟨a3, n3, k3⟩, ⟨a4, n4, k4⟩⟩ := x
 obtain ⟨⟨b1, m1, j1⟩, ⟨b2, m2, j2⟩, ⟨b3, m3, j3⟩, ⟨b4, m4, j4⟩⟩ := y
 simp only at e1 e2 e3 e4 H ⊢
 subst e1 e2 e3 e4
 go_enter Tryz.func129, Tryz.ntmps129
 go_upto_region 1 with fail
 generalize ((w.alloc (.cells #[.slice a1 m1 k1, .slice a2 m2 k2, .slice a3 m3 k3, .slice a4 m4 k4] 59)).alloc (.cells #[.slice b1 m1 j1, .slice b2 m2 j2, .slice b3 m3 j3, .slice b4 m4 j4] 59)) = W1 at *
 obtain ⟨b, b', hb, hb', X, Y, DX, DY, BB⟩ := H.out
 clear H
 rw [<- hb]
 rw [<- hb] at hb'
 subst hb'
 have Hb : Hid (b = w.heap.size) := hb
 clear hb
 have H : Hid (SdSt w W1 b ⟨⟨a1, m1, k1⟩, ⟨a2, m2, k2⟩, ⟨a3, m3, k3⟩, ⟨a4, m4, k4⟩⟩ ⟨⟨b1, m1, j1⟩, ⟨b2, m2, j2⟩, ⟨b3, m3, j3⟩, ⟨b4, m4, j4⟩⟩ d) := ⟨X, Y, DX, DY, BB⟩
 clear X Y DX DY BB
 have x0 := H.out.1.1
 have x1 := H.out.1.2.1
 have x2 := H.out.1.2.2.1
 have y0 := H.out.2.1.1
 have y1 := H.out.2.1.2.1
 have y2 := H.out.2.1.2.2.1
 simp only at x0 x1 x2 y0 y1 y2
 go_wp2_with fail
 refine (sameT_yes a3 b3 m3 k3 j3 d.ts W1 H.out.2.2.1.h3.rd H.out.2.2.2.1.h3.rd H.out.2.2.1.h3.len (Nat.le_trans H.out.2.2.1.h3.cap.1 H.out.2.2.1.h3.cap.2)).mono ?_
 rintro e W2 ⟨rfl, H2⟩
 have H' : Hid (SdSt w W2 b ⟨⟨a1, m1, k1⟩, ⟨a2, m2, k2⟩, ⟨a3, m3, k3⟩, ⟨a4, m4, k4⟩⟩ ⟨⟨b1, m1, j1⟩, ⟨b2, m2, j2⟩, ⟨b3, m3, j3⟩, ⟨b4, m4, j4⟩⟩ d) := H.out.go H2.out
 clear H2 H x0 x1 x2 y0 y1 y2
 have x3 := H'.out.1.2.2.2.1
 have y3 := H'.out.2.1.2.2.2.1
 simp only at x3 y3
 go_wp2_with fail
 refine (same_yes a4 b4 m4 k4 j4 d.raw W2 H'.out.2.2.1.h4.rd H'.out.2.2.2.1.h4.rd H'.out.2.2.1.h4.len).mono ?_
 rintro e W3 ⟨rfl, rfl⟩
 clear x3 y3
 have hn1 : d.ns.length = m1 := H'.out.2.2.1.h1.len
 have hn2 : d.us.length = m2 := H'.out.2.2.1.h2.len
 have hm1 : m1 <= 9223372036854775807 := Nat.le_trans H'.out.2.2.1.h1.cap.1 H'.out.2.2.1.h1.cap.2
 have hm2 : m2 <= 9223372036854775807 := Nat.le_trans H'.out.2.2.1.h2.cap.1 H'.out.2.2.1.h2.cap.2
 have HN : Hid (d.ns.length = m1 /\ d.us.length = m2) := ⟨hn1, hn2⟩
 clear hn1 hn2
 go_wp2_with fail
 go_loopw [5] (fun v wr => ∃ k : Nat, k <= m1 /\ v = .int .i64 (k : Int) /\ Hid (SdSt w wr b ⟨⟨a1, m1, k1⟩, ⟨a2, m2, k2⟩, ⟨a3, m3, k3⟩, ⟨a4, m4, k4⟩⟩ ⟨⟨b1, m1, j1⟩, ⟨b2, m2, j2⟩, ⟨b3, m3, j3⟩, ⟨b4, m4, j4⟩⟩ d)) (fun v _ => m1 - (intOf v).toNat)
 case atStart => exact ⟨0, Nat.zero_le _, rfl, H'⟩
 case round =>
   obtain ⟨k, hk, rfl, H⟩ := hrel
   clear H'
   have x0 := H.out.1.1
   have y0 := H.out.2.1.1
   simp only at x0 y0
   by_cases hlt : k < m1
   · have hlt' : (k : Int) < (m1 : Int) := by omega
     have hki : k < d.ns.length := by rw [HN.out.1]; exact hlt
     obtain ⟨B1, o1, ha1, hl1, z1, hz1, hr1⟩ := H.out.2.2.1.h1.at k hki
     obtain ⟨B2, o2, ha2, hl2, z2, hz2, hr2⟩ := H.out.2.2.2.1.h1.at k hki
     simp only at ha1 ha2
     subst ha1 ha2
     have ez : z2.n = z1.n := by rw [<- hr1.len, <- hr2.len]
     rw [ez] at hz2
     have KS : Hid (∀ W', Below wr.heap.size wr W' -> Calls Tryz.prog 128 #[.slice z1.a z1.n z1.c, .slice z2.a z1.n z2.c] W' fun e w' => e = .returned (.bool true) /\ Hid (Below W'.heap.size W' w')) :=
       fun W' hb => sameN_yes z1.a z2.a z1.n z1.c z2.c d.ns[k] W' (hr1.rd.below hb) (hr2.rd.below hb) hr1.len (Nat.le_trans hr1.cap.1 hr1.cap.2)
     have HBx : Hid (Below wr.heap.size wr wr.drew) := (Below.refl _ _).drew
     have hbx := H.out.1.2.2.2.2
     have hby := H.out.2.1.2.2.2.2
     clear hr1 hr2 ez
     generalize z1.a = za1 at *
     generalize z1.n = zn1 at *
     generalize z1.c = zc1 at *
     generalize z2.a = za2 at *
     generalize z2.c = zc2 at *
     go_wp2_with fail
     go_region_held3 (fun W => W.cell? ⟨b, 0, none⟩ = some (.slice (some ⟨B1, o1, none⟩) m1 k1) /\ W.cell? ⟨b + 1, 0, none⟩ = some (.slice (some ⟨B2, o2, none⟩) m1 j1) /\ W.cell? ⟨B1, o1 + k, none⟩ = some (.slice za1 zn1 zc1) /\ W.cell? ⟨B2, o2 + k, none⟩ = some (.slice za2 zn1 zc2)) (go_keep) (first
       | (go_at_call 128; refine (KS.out _ HBx.out).mono ?_; rintro e wy ⟨rfl, HY⟩; have q0 : wy.cell? ⟨b, 0, none⟩ = some (.slice (some ⟨B1, o1, none⟩) m1 k1) := (HY.out.cell (p := ⟨b, 0, none⟩) hbx).trans x0; have q1 : wy.cell? ⟨b + 1, 0, none⟩ = some (.slice (some ⟨B2, o2, none⟩) m1 j1) := (HY.out.cell (p := ⟨b + 1, 0, none⟩) hby).trans y0; have q2 : wy.cell? ⟨B1, o1 + k, none⟩ = some (.slice za1 zn1 zc1) := (HY.out.cell (p := ⟨B1, o1 + k, none⟩) hl1).trans hz1; have q3 : wy.cell? ⟨B2, o2 + k, none⟩ = some (.slice za2 zn1 zc2) := (HY.out.cell (p := ⟨B2, o2 + k, none⟩) hl2).trans hz2))
     have H2 : Hid (SdSt w wy b ⟨⟨some ⟨B1, o1, none⟩, m1, k1⟩, ⟨a2, m2, k2⟩, ⟨a3, m3, k3⟩, ⟨a4, m4, k4⟩⟩ ⟨⟨some ⟨B2, o2, none⟩, m1, j1⟩, ⟨b2, m2, j2⟩, ⟨b3, m3, j3⟩, ⟨b4, m4, j4⟩⟩ d) := H.out.go (HBx.out.trans HY.out)
     clear q0 q1 q2 q3 x0 y0 hz1 hz2 HY KS H HBx
     go_wp2_with fail
     exact ⟨⟨k + 1, by omega, by go_num, H2⟩, by simp [intOf]; omega⟩
   · have hge : ¬ (k : Int) < (m1 : Int) := by omega
     go_wp2_with fail
     obtain ⟨wz, hz⟩ : ∃ z, z = wr := ⟨_, rfl⟩
     subst hz
     clear x0 y0
     go_loopw [6] (fun v wr => ∃ k : Nat, k <= m2 /\ v = .int .i64 (k : Int) /\ Hid (SdSt w wr b ⟨⟨a1, m1, k1⟩, ⟨a2, m2, k2⟩, ⟨a3, m3, k3⟩, ⟨a4, m4, k4⟩⟩ ⟨⟨b1, m1, j1⟩, ⟨b2, m2, j2⟩, ⟨b3, m3, j3⟩, ⟨b4, m4, j4⟩⟩ d)) (fun v _ => m2 - (intOf v).toNat)
     case atStart => exact ⟨0, Nat.zero_le _, rfl, H⟩
     case round =>
       obtain ⟨i, hi, rfl, H'⟩ := hrel
       clear H
       have x1 := H'.out.1.2.1
       have y1 := H'.out.2.1.2.1
       simp only at x1 y1
       by_cases hit : i < m2
       · have hit' : (i : Int) < (m2 : Int) := by omega
         have hii : i < d.us.length := by rw [HN.out.2]; exact hit
         obtain ⟨B1, o1, ha1, hl1, hz1⟩ := H'.out.2.2.1.h2.at i hii
         obtain ⟨B2, o2, ha2, hl2, hz2⟩ := H'.out.2.2.2.1.h2.at i hii
         simp only at ha1 ha2
         subst ha1 ha2
         generalize d.us[i] = u at *
         go_wp2_with fail
         go_quiet (fail)
         have H2 : Hid (SdSt w (wr.drewN nq) b ⟨⟨a1, m1, k1⟩, ⟨some ⟨B1, o1, none⟩, m2, k2⟩, ⟨a3, m3, k3⟩, ⟨a4, m4, k4⟩⟩ ⟨⟨b1, m1, j1⟩, ⟨some ⟨B2, o2, none⟩, m2, j2⟩, ⟨b3, m3, j3⟩, ⟨b4, m4, j4⟩⟩ d) := H'.out.go ⟨rfl, rfl, rfl, Nat.le_refl _, fun _ _ => rfl⟩
         clear x1 y1 hz1 hz2 H'
         generalize wr.drewN nq = Wq at *
         go_wp2_with fail
         exact ⟨⟨i + 1, by omega, by go_num, H2⟩, by simp [intOf]; omega⟩
       · have hige : ¬ (i : Int) < (m2 : Int) := by omega
         go_wp2_with fail
         go_ret
         exact ⟨rfl, H'.out.2.2.2.2⟩
end Go.Proofs.YteplffhfeoephaaGreat
namespace Go.Proofs.YteplffhfeoephaaGreat
open Go.ChangeShapes Go.WideShapes Go.ChangeAt Go.RowKit
structure Wb (d : Dat) : Prop where
 nn : d.ns.length <= 5860000000000
 nl : ∀ x ∈ d.ns, x.length <= 8796093022000
 un : d.us.length <= 35184372088832
 tn : d.ts.length <= 8796093022000
 tz : ∀ x ∈ d.ts, x.size <= 140737488355328
 r : d.raw.length <= 140737488355328
end Go.Proofs.YteplffhfeoephaaGreat
namespace Go.Proofs.YteplffhfeoephaaGreat
open Go.ChangeShapes Go.WideShapes Go.ChangeAt Go.RowKit
theorem ownsRow_stays {B e k n : Nat} {v : Value} {xs : List Value} {w w' : World} (h : w.ownsRow B e k v n xs) (hb : Below w.heap.size w w') : w'.ownsRow B e k v n xs :=
 h.kept (row := none) ⟨hb.os, hb.tape, hb.output, hb.size, fun j hj _ => hb.block j hj⟩ (by cases v.ownBlock with | none => exact .inl rfl | some j => exact .inr (by simp))
theorem ownsRow_low {B B' e k n : Nat} {v : Value} {xs : List Value} {w : World} (h : w.ownsRow B e k v n xs) (hB : B' <= B) : w.ownsRow B' e k v n xs :=
 ⟨h.1, h.2.elim .inl (fun ⟨g, cap, cur, e, hb, r⟩ => .inr ⟨g, cap, cur, e, Nat.le_trans hB hb, r⟩)⟩
structure Rec where
 ow : List ByteArray
 t : Nat
 cl : Nat
 tt : Nat
 d : Dat
structure RA where
 o : Sl
 d : DA
def recCells (x : RA) (r : Rec) : List Value := [.slice x.o.a x.o.n x.o.c, .int .u16 r.t, .int .u16 r.cl, .int .u32 r.tt, .slice x.d.p1.a x.d.p1.n x.d.p1.c, .slice x.d.p2.a x.d.p2.n x.d.p2.c, .slice x.d.p3.a x.d.p3.n x.d.p3.c, .slice x.d.p4.a x.d.p4.n x.d.p4.c]
def cellsR (ps : List (RA × Rec)) : List Value := ps.flatMap fun p => recCells p.1 p.2
theorem cellsR_at (ps : List (RA × Rec)) (k : Nat) (h : k < ps.length) (j : Nat) (hj : j < 8) : (cellsR ps)[k * 8 + j]? = (recCells ps[k].1 ps[k].2)[j]? := by
 induction ps generalizing k with
 | nil => simp at h
 | cons p ws ih =>
   have hc : cellsR (p :: ws) = recCells p.1 p.2 ++ cellsR ws := by simp [cellsR]
   have h8 : (recCells p.1 p.2).length = 8 := rfl
   rw [hc]
   cases k with
   | zero => rw [List.getElem?_append_left (by rw [h8]; omega)]; simp
   | succ k =>
     have := ih k (by simpa using h)
     rw [List.getElem?_append_right (by rw [h8]; omega), h8, show (k + 1) * 8 + j - 8 = k * 8 + j by omega, this]
     simp
theorem cellsR_app (a b : List (RA × Rec)) : cellsR (a ++ b) = cellsR a ++ cellsR b := by simp [cellsR]
theorem cellsR_one (xs : List (RA × Rec)) : ∀ u ∈ cellsR xs, u.oneCell' = true := by
 intro u hu
 simp only [cellsR, List.mem_flatMap] at hu
 obtain ⟨p, _, hu⟩ := hu
 simp [recCells] at hu
 rcases hu with rfl | rfl | rfl | rfl | rfl | rfl | rfl | rfl <;> rfl
def RRd (w : World) (x : RA) (r : Rec) : Prop := TRd w x.o r.ow /\ DRd w x.d r.d
theorem RRd.below {w w' : World} {x : RA} {r : Rec} (h : RRd w x r) (hb : Below w.heap.size w w') : RRd w' x r := ⟨h.1.below hb, h.2.below hb⟩
def ROwx (B : Nat) (w : World) (x : RA) (r : Rec) : Prop := Owx1 B w x.o r.ow /\ DOwx B w x.d r.d
def RdR (w : World) (a : Option Addr) (rs : List Rec) : Prop :=
 rs = [] ∨ ∃ b o, a = some ⟨b, o, none⟩ /\ b < w.heap.size /\ ∀ i (h : i < rs.length), ∃ x : RA, (∀ j (hj : j < 8), w.cell? ⟨b, o + i * 8 + j, none⟩ = (recCells x rs[i])[j]?) /\ RRd w x rs[i]
theorem RdR.below {w w' : World} {a : Option Addr} {rs : List Rec} (h : RdR w a rs) (hb : Below w.heap.size w w') : RdR w' a rs := by
 rcases h with h | ⟨b, o, h1, h2, h3⟩
 · exact .inl h
 · refine .inr ⟨b, o, h1, Nat.lt_of_lt_of_le h2 hb.size, fun i hi => ?_⟩
   obtain ⟨x, e1, e5⟩ := h3 i hi
   exact ⟨x, fun j hj => (hb.cell (p := ⟨b, o + i * 8 + j, none⟩) h2).trans (e1 j hj), e5.below hb⟩
theorem RdR.at {w : World} {a : Option Addr} {rs : List Rec} (h : RdR w a rs) (i : Nat) (hi : i < rs.length) : ∃ b o, a = some ⟨b, o, none⟩ /\ b < w.heap.size /\ ∃ x : RA, (∀ j (hj : j < 8), w.cell? ⟨b, o + i * 8 + j, none⟩ = (recCells x rs[i])[j]?) /\ RRd w x rs[i] := by
 rcases h with h | ⟨b, o, h1, h2, h3⟩
 · subst h; simp at hi
 · exact ⟨b, o, h1, h2, h3 i hi⟩
def RfR (B : Nat) (w : World) (g : Option Nat) (x : RA) (r : Rec) : Prop :=
 ∀ w' : World, w.heap.size <= w'.heap.size -> (∀ j, j < w.heap.size -> B <= j -> some j ≠ g -> w'.heap[j]? = w.heap[j]?) -> RRd w' x r
theorem RfR.of {B B' : Nat} {w : World} {g : Option Nat} {x : RA} {r : Rec} (h : ROwx B' w x r) (hB : B <= B') (hg : ∀ k, g = some k -> k < B') : RfR B w g x r := by
 intro w' hs hb
 have hk : ∀ j, B' <= j -> j < w.heap.size -> w'.heap[j]? = w.heap[j]? := fun j h1 h2 => hb j h2 (by omega) (fun e => by have := hg j e.symm; omega)
 exact ⟨(h.1.keep (fun j h1 h2 _ => hk j h1 h2)).rd, (h.2.keep hk).rd⟩
theorem RfR.go {B : Nat} {w w' : World} {g g' : Option Nat} {x : RA} {r : Rec} (h : RfR B w g x r) (hs : w.heap.size <= w'.heap.size) (hb : ∀ j, j < w.heap.size -> B <= j -> some j ≠ g -> w'.heap[j]? = w.heap[j]?) (hg : ∀ j, j < w.heap.size -> some j ≠ g -> some j ≠ g') : RfR B w' g' x r := by
 intro w2 hs2 hb2
 exact h w2 (Nat.le_trans hs hs2) (fun j h1 h2 h3 => (hb2 j (by omega) h2 (hg j h1 h3)).trans (hb j h1 h2 h3))
def OwR (B : Nat) (w : World) (v : Value) (rs : List Rec) : Prop :=
 ∃ ps : List (RA × Rec), ps.map (·.2) = rs /\ w.ownsRow B 61 8 v ps.length (cellsR ps) /\ ∀ p ∈ ps, RfR B w v.ownBlock p.1 p.2
theorem OwR.mono {B B' : Nat} {w : World} {v : Value} {rs : List Rec} (h : OwR B w v rs) (hB : B' <= B) : OwR B' w v rs := by
 obtain ⟨ps, h1, h2, h3⟩ := h
 exact ⟨ps, h1, ownsRow_low h2 hB, fun p hp w' hs hb => h3 p hp w' hs (fun j e1 e2 e3 => hb j e1 (by omega) e3)⟩
theorem OwR.rd {B : Nat} {w : World} {v : Value} {rs : List Rec} (h : OwR B w v rs) : ∃ a c, v = .slice a rs.length c /\ RdR w a rs /\ rs.length <= c /\ c <= 9223372036854775807 /\ (a = none -> c = 0) := by
 obtain ⟨ps, rfl, h2, h3⟩ := h
 have hpl : (ps.map (·.2)).length = ps.length := by simp
 rw [hpl]
 rcases h2.2 with ⟨rfl, h0⟩ | ⟨g, cap, cur, rfl, hb, hg, k1, k2, k3, k4⟩
 · have : ps = [] := List.length_eq_zero_iff.1 h0
   subst this
   exact ⟨none, 0, rfl, .inl rfl, by simp, by omega, fun _ => rfl⟩
 · refine ⟨_, cap, rfl, .inr ⟨g, 0, rfl, (Array.getElem?_eq_some_iff.1 hg).1, fun i hi => ?_⟩, k1, by simpa only [maxLen] using k2, by simp⟩
   have hi' : i < ps.length := by simpa using hi
   have ad : ∀ j, (⟨g, 0, none⟩ : Addr).add j = ⟨g, 0 + j, none⟩ := fun j => by unfold Addr.add; split <;> simp_all
   have hgi : (ps.map (·.2))[i] = ps[i].2 := by simp
   refine ⟨ps[i].1, fun j hj => ?_, ?_⟩
   · rw [hgi]
     have e1 := cellsR_at ps i hi' j hj
     have hlt : j < (recCells ps[i].1 ps[i].2).length := hj
     rw [List.getElem?_eq_getElem hlt] at e1 ⊢
     have := h2.cells (g := g) rfl _ _ e1
     rw [ad] at this
     rw [Nat.add_assoc]; exact this
   · rw [hgi]
     exact h3 ps[i] (List.getElem_mem _) w (Nat.le_refl _) (fun _ _ _ _ => rfl)
theorem one_rec (w : World) (x : RA) (r : Rec) : ∀ j u, (cellsR [(x, r)])[j]? = some u -> (w.alloc (.cells (recCells x r).toArray 61)).cell? ((⟨w.heap.size, 0, none⟩ : Addr).add j) = some u := by
 intro j u hu
 have ad : (⟨w.heap.size, 0, none⟩ : Addr).add j = ⟨w.heap.size, j, none⟩ := by unfold Addr.add; split <;> simp_all
 rw [ad]
 unfold World.cell?
 rw [heap_alloc_new]
 have : cellsR [(x, r)] = recCells x r := by simp [cellsR]
 rw [this] at hu
 simpa using hu
end Go.Proofs.YteplffhfeoephaaGreat
namespace Go.Proofs.YteplffhfeoephaaGreat
open Go.ChangeShapes Go.WideShapes Go.ChangeAt Go.RowKit
structure Qn where
 nm : List ByteArray
 ty : Nat
 cl : Nat
structure QA where
 s : Sl
 ty : Nat
 cl : Nat
structure QOk (w : World) (x : QA) (q : Qn) : Prop where
 rd : TRd w x.s q.nm
 ty : x.ty = q.ty
 cl : x.cl = q.cl
 bt : q.ty < 65536
 bc : q.cl < 65536
theorem QOk.below {w w' : World} {x : QA} {q : Qn} (h : QOk w x q) (hb : Below w.heap.size w w') : QOk w' x q := ⟨h.rd.below hb, h.ty, h.cl, h.bt, h.bc⟩
end Go.Proofs.YteplffhfeoephaaGreat
namespace Go.Proofs.YteplffhfeoephaaGreat
open Go.ChangeShapes Go.WideShapes Go.ChangeAt Go.RowKit
abbrev PLs := List (ByteArray × Nat)
abbrev Pc := PLs -> Nat -> List Int × PLs
def pby (zs : List Int) : Pc := fun pl _ => (zs, pl)
def pnm (ss : List ByteArray) (back : Bool) : Pc := fun pl n => (qshort (if back then pl else []) ss, qkeep pl n (qown (if back then pl else []) ss) ss)
def psq (f g : Pc) : Pc := fun pl n => ((f pl n).1 ++ (g (f pl n).2 (n + (f pl n).1.length)).1, (g (f pl n).2 (n + (f pl n).1.length)).2)
def pls : List Pc -> Pc
 | [] => pby []
 | f :: r => psq f (pls r)
abbrev WSt := Option (List Int × PLs)
def prun (f : Pc) (s : WSt) : WSt := s.bind fun s => if 65535 < s.1.length + (f s.2 s.1.length).1.length then none else some (s.1 ++ (f s.2 s.1.length).1, (f s.2 s.1.length).2)
theorem prun_seq (f g : Pc) (s : WSt) : prun (psq f g) s = prun g (prun f s) := by
 cases s with
 | none => rfl
 | some s =>
   obtain ⟨tx, pl⟩ := s
   simp only [prun, Option.bind_some, psq, List.length_append]
   by_cases h1 : 65535 < tx.length + (f pl tx.length).1.length
   · rw [if_pos (by omega), if_pos h1]; rfl
   · rw [if_neg h1]
     simp only [Option.bind_some, List.length_append]
     by_cases h2 : 65535 < tx.length + (f pl tx.length).1.length + (g (f pl tx.length).2 (tx.length + (f pl tx.length).1.length)).1.length
     · rw [if_pos h2, if_pos (by omega)]
     · rw [if_neg h2, if_neg (by omega), List.append_assoc]
theorem psq_assoc (f g h : Pc) : psq (psq f g) h = psq f (psq g h) := by
 funext pl n
 simp only [psq, List.append_assoc, List.length_append, Nat.add_assoc]
theorem pls_app (a b : List Pc) : pls (a ++ b) = psq (pls a) (pls b) := by
 induction a with
 | nil => funext pl n; simp [pls, psq, pby]
 | cons f r ih => rw [List.cons_append, pls, ih, pls, psq_assoc]
def ahd (t : Nat) : Nat := if t = 15 then 2 else if t = 33 then 6 else 0
def cnt (t : Nat) : Nat := if t = 2 ∨ t = 5 ∨ t = 12 ∨ t = 15 ∨ t = 33 then 1 else if t = 6 then 2 else 0
def sqt (t : Nat) : Bool := decide (t = 2 ∨ t = 5 ∨ t = 6 ∨ t = 12 ∨ t = 15)
def dns (d : Dat) : Nat := (d.ns.map nsz).sum
def pdat (t : Nat) (d : Dat) : Pc := psq (pby ((writeF t d).take (ahd t))) (psq (pls (d.ns.map fun n => pnm n (sqt t))) (pby ((writeF t d).drop (ahd t + dns d))))
def psz (f : Pc) : Pc := fun pl n => (numB (f pl (n + 2)).1.length 2 ++ (f pl (n + 2)).1, (f pl (n + 2)).2)
def prec (r : Rec) : Pc := psq (pnm r.ow true) (psq (pby (numB r.t 2)) (psq (pby (numB r.cl 2)) (psq (pby (numB r.tt 4)) (psz (pdat r.t r.d)))))
def pqn (q : Qn) : Pc := psq (pnm q.nm true) (psq (pby (numB q.ty 2)) (pby (numB q.cl 2)))
def g16 (zs : List Int) (p : Nat) : Option (Nat × Nat) := if p + 2 <= zs.length then some (gNum zs p 2, p + 2) else none
def g32 (zs : List Int) (p : Nat) : Option (Nat × Nat) := if p + 4 <= zs.length then some (gNum zs p 4, p + 4) else none
def gnm (zs : List Int) (p : Nat) : Option (List ByteArray × Nat) := qgo zs true p p none []
def gmany {α : Type} (f : Nat -> Option (α × Nat)) : Nat -> Nat -> Option (List α × Nat)
 | 0, p => some ([], p)
 | k + 1, p => (f p).bind fun x => (gmany f k x.2).map fun y => (x.1 :: y.1, y.2)
def gpl (t : Nat) (zs : List Int) (p e : Nat) : Option (List Int) :=
 if sqt t then
   if p + ahd t <= e then (gmany (gnm zs) (cnt t) (p + ahd t)).bind fun x => if x.2 <= e then some ((zs.drop p).take (ahd t) ++ (x.1.flatMap nmB ++ (zs.drop x.2).take (e - x.2))) else none
   else none
 else some ((zs.drop p).take (e - p))
def gdr (t : Nat) (b : List Int) : Option Dat := if mayT t = true /\ b.length <= 65535 then dreadF t b else none
def gdat (t size : Nat) (zs : List Int) (p : Nat) : Option (Dat × Nat) :=
 if p + size <= zs.length then (gpl t zs p (p + size)).bind fun b => (gdr t b).map fun d => (d, p + size) else none
def grec (zs : List Int) (p : Nat) : Option (Rec × Nat) :=
 (gnm zs p).bind fun o => (g16 zs o.2).bind fun t => (g16 zs t.2).bind fun c => (g32 zs c.2).bind fun l => (g16 zs l.2).bind fun s => (gdat t.1 s.1 zs s.2).map fun d => (⟨o.1, t.1, c.1, l.1, d.1⟩, d.2)
def gqn (zs : List Int) (p : Nat) : Option (Qn × Nat) :=
 (gnm zs p).bind fun o => (g16 zs o.2).bind fun t => (g16 zs t.2).map fun c => (⟨o.1, t.1, c.1⟩, c.2)
def Bak {α : Type} (f : Pc) (g : List Int -> Nat -> Option (α × Nat)) (x : α) : Prop :=
 ∀ (tx : List Int) (pl : PLs) (R : List Int), QInv tx pl -> tx.length + (f pl tx.length).1.length <= 65535 ->
   g (tx ++ ((f pl tx.length).1 ++ R)) tx.length = some (x, tx.length + (f pl tx.length).1.length)
def Kps (f : Pc) : Prop := ∀ (tx : List Int) (pl : PLs), QInv tx pl -> QInv (tx ++ (f pl tx.length).1) (f pl tx.length).2
def Grw (f : Pc) : Prop := ∀ (pl : PLs) (n : Nat), (f pl n).2.length <= pl.length + (f pl n).1.length
theorem QInv.nil0 (tx : List Int) : QInv tx [] := fun k p h => by simp at h
theorem kps_by (zs : List Int) : Kps (pby zs) := fun tx pl h => h.more
theorem kps_seq {f g : Pc} (hf : Kps f) (hg : Kps g) : Kps (psq f g) := by
 intro tx pl h
 have h1 := hf tx pl h
 have h2 := hg _ _ h1
 simp only [List.length_append] at h2
 simp only [psq, <- List.append_assoc]
 exact h2
theorem kps_ls : ∀ l : List Pc, (∀ f ∈ l, Kps f) -> Kps (pls l)
 | [], _ => kps_by []
 | f :: r, h => kps_seq (h f (by simp)) (kps_ls r fun g hg => h g (List.mem_cons_of_mem _ hg))
theorem own_short (pl : PLs) : ∀ t : List ByteArray, qown pl t <= (qshort pl t).length
 | [] => by simp [qown, qshort]
 | s :: t => by
   have ih := own_short pl t
   unfold qown qshort
   split
   · simp
   · simp; omega
theorem grw_nm (ss : List ByteArray) (back : Bool) : Grw (pnm ss back) := by
 intro pl n
 have h1 := keep_len pl n (qown (if back then pl else []) ss) ss
 have h2 := own_short (if back then pl else []) ss
 simp only [pnm]
 omega
theorem kps_nm (ss : List ByteArray) (back : Bool) (hk : nck ss = 0) : Kps (pnm ss back) := by
 intro tx pl hI
 have hI0 : QInv tx (if back then pl else []) := by cases back with | true => exact hI | false => exact QInv.nil0 tx
 have := keep_inv (if back then pl else []) [] ss tx pl (qown (if back then pl else []) ss) (Nat.le_refl _) hI0 (labs_of hk) (nck_small hk).1 hI.more (fun k p h => Nat.le_of_lt (hI0 k p h).1)
 simpa [pnm] using this
theorem bak_nm (ss : List ByteArray) (back : Bool) (hk : nck ss = 0) : Bak (pnm ss back) gnm ss := by
 intro tx pl R hI _
 have hI0 : QInv tx (if back then pl else []) := by cases back with | true => exact hI | false => exact QInv.nil0 tx
 have h := short_stands (if back then pl else []) ss tx R tx.length hI0 (labs_of hk) (fun k p h => (hI0 k p h).1)
 have := h.read none [] (by simpa using hk)
 simpa [gnm, pnm] using this
theorem bak_16 (n : Nat) (h : n <= 65535) : Bak (pby (numB n 2)) g16 n := by
 intro tx pl R hI _
 have hl := numB_len n 2 (by omega)
 show g16 (tx ++ (numB n 2 ++ R)) tx.length = some (n, tx.length + (numB n 2).length)
 unfold g16
 rw [if_pos (by simp [hl]), gNum_at tx R n 2 tx.length (by omega) rfl, hl]
theorem bak_32 (n : Nat) (h : n <= 4294967295) : Bak (pby (numB n 4)) g32 n := by
 intro tx pl R hI _
 have hl := numB_len n 4 (by omega)
 show g32 (tx ++ (numB n 4 ++ R)) tx.length = some (n, tx.length + (numB n 4).length)
 unfold g32
 rw [if_pos (by simp [hl]), gNum_at tx R n 4 tx.length (by omega) rfl, hl]
theorem kps_sz {f : Pc} (h : Kps f) : Kps (psz f) := by
 intro tx pl hI
 have h1 := h (tx ++ numB (f pl (tx.length + 2)).1.length 2) pl hI.more
 have hl : (numB (f pl (tx.length + 2)).1.length 2).length = 2 := numB_len _ _ (by omega)
 simp only [List.length_append, hl] at h1
 simp only [psz, <- List.append_assoc]
 exact h1
theorem kps_dat {t : Nat} {d : Dat} (h : checkF t d = 0) : Kps (pdat t d) := by
 refine kps_seq (kps_by _) (kps_seq (kps_ls _ ?_) (kps_by _))
 intro f hf
 obtain ⟨n, hn, rfl⟩ := List.mem_map.1 hf
 exact kps_nm n _ ((check_parts h).2.2.1 n hn)
theorem kps_rec {r : Rec} (ho : nck r.ow = 0) (h : checkF r.t r.d = 0) : Kps (prec r) :=
 kps_seq (kps_nm _ _ ho) (kps_seq (kps_by _) (kps_seq (kps_by _) (kps_seq (kps_by _) (kps_sz (kps_dat h)))))
theorem kps_qn {q : Qn} (ho : nck q.nm = 0) : Kps (pqn q) := kps_seq (kps_nm _ _ ho) (kps_seq (kps_by _) (kps_by _))
theorem bak_bind {α β : Type} {f g : Pc} {r : List Int -> Nat -> Option (α × Nat)} {k : α -> List Int -> Nat -> Option (β × Nat)} {x : α} {y : β} (hf : Bak f r x) (hk : Kps f) (hg : Bak g (k x) y) : Bak (psq f g) (fun zs p => (r zs p).bind fun a => k a.1 zs a.2) y := by
 intro tx pl R hI hl
 simp only [psq, List.length_append] at hl ⊢
 have h1 := hf tx pl ((g (f pl tx.length).2 (tx.length + (f pl tx.length).1.length)).1 ++ R) hI (by omega)
 have h2 := hg (tx ++ (f pl tx.length).1) (f pl tx.length).2 R (hk tx pl hI) (by simp only [List.length_append]; omega)
 simp only [List.length_append] at h2
 simp only [List.append_assoc] at h1 h2 ⊢
 rw [h1]
 simp only [Option.bind_some]
 rw [h2, Nat.add_assoc]
theorem bak_map {α β : Type} {f : Pc} {r : List Int -> Nat -> Option (α × Nat)} {x : α} (F : α -> β) (hf : Bak f r x) : Bak f (fun zs p => (r zs p).map fun a => (F a.1, a.2)) (F x) := by
 intro tx pl R hI hl
 simp only [hf tx pl R hI hl, Option.map_some]
theorem bak_many {α : Type} {r : List Int -> Nat -> Option (α × Nat)} : ∀ (l : List (Pc × α)), (∀ x ∈ l, Bak x.1 r x.2 /\ Kps x.1) -> Bak (pls (l.map (·.1))) (fun zs => gmany (r zs) l.length) (l.map (·.2))
 | [], _ => by intro tx pl R hI hl; simp [pls, pby, gmany]
 | x :: l, h => by
   have h0 := h x (by simp)
   have ih := bak_many l fun y hy => h y (List.mem_cons_of_mem _ hy)
   exact bak_bind (k := fun a zs p => (gmany (r zs) l.length p).map fun y => (a :: y.1, y.2)) h0.1 h0.2 (bak_map (fun y => x.2 :: y) ih)
end Go.Proofs.YteplffhfeoephaaGreat
namespace Go.Proofs.YteplffhfeoephaaGreat
open Go.ChangeShapes Go.WideShapes Go.ChangeAt Go.RowKit
theorem val_two (zs : List Int) (p : Nat) (h : p + 2 <= zs.length) : val ((zs.drop p).take 2) = 256 * zs.getD p 0 + zs.getD (p + 1) 0 := by
 have e : (zs.drop p).take 2 = [zs.getD p 0, zs.getD (p + 1) 0] := by
   apply List.ext_getElem
   · simp; omega
   · intro i h1 h2
     have : i = 0 ∨ i = 1 := by simp at h2; omega
     rcases this with rfl | rfl
     · simp [List.getD_eq_getElem?_getD, List.getElem?_eq_getElem (show p < zs.length by omega)]
     · simp [List.getD_eq_getElem?_getD, List.getElem?_eq_getElem (show p + 1 < zs.length by omega)]
 rw [e]
 simp [val]
 try omega
set_option maxHeartbeats 400000 in
theorem pointed_no (a : Option Addr) (len cap p : Nat) (w : World) (hc : len <= cap) (hm : cap <= 9223372036854775807) (hn : len < p + 2) :
   Calls Tryz.prog 171 #[.slice a len cap, .int .i64 p] w fun e w' => e = .returned (.tuple #[.int .i64 0, .bool false]) /\ w' = w := by
 have K := Lib.hid (u16_no a len cap p w hc hm (.inr (by omega)))
 go_enter Tryz.func171, Tryz.ntmps171
 go_wp2_with fail
 refine K.out.mono ?_
 rintro e w1 ⟨rfl, rfl⟩
 go_wp2
 go_ret2
 exact ⟨rfl, rfl⟩
set_option maxHeartbeats 400000 in
theorem pointed_low (a : Option Addr) (len cap p : Nat) (zs : List Int) (w : World) (hr : Rd w a zs) (hl : zs.length = len) (hc : len <= cap) (hm : cap <= 9223372036854775807) (hn : p + 2 <= len) (h1 : zs.getD p 0 < 192) :
   Calls Tryz.prog 171 #[.slice a len cap, .int .i64 p] w fun e w' => e = .returned (.tuple #[.int .i64 0, .bool false]) /\ w' = w := by
 have K := Lib.hid (u16_yes a len cap p zs w hr hl hc hm hn)
 have hb := hr.bd p
 have hb1 := hr.bd (p + 1)
 rw [val_two zs p (by omega)] at K
 generalize zs.getD p 0 = x at *
 generalize zs.getD (p + 1) 0 = y at *
 obtain ⟨z, hz⟩ : ∃ z, 256 * x + y = z := ⟨_, rfl⟩
 rw [hz] at K
 have hz1 : z < 49152 := by omega
 clear hz
 go_enter Tryz.func171, Tryz.ntmps171
 go_wp2_with fail
 refine K.out.mono ?_
 rintro e w1 ⟨rfl, rfl⟩
 go_wp2
 go_ret2
 exact ⟨rfl, rfl⟩
set_option maxHeartbeats 400000 in
theorem pointed_yes (a : Option Addr) (len cap p : Nat) (zs : List Int) (w : World) (hr : Rd w a zs) (hl : zs.length = len) (hc : len <= cap) (hm : cap <= 9223372036854775807) (hn : p + 2 <= len) (h1 : 192 <= zs.getD p 0) :
   Calls Tryz.prog 171 #[.slice a len cap, .int .i64 p] w fun e w' => e = .returned (.tuple #[.int .i64 (qto zs p : Nat), .bool true]) /\ w' = w := by
 have K := Lib.hid (u16_yes a len cap p zs w hr hl hc hm hn)
 have hb := hr.bd p
 have hb1 := hr.bd (p + 1)
 rw [val_two zs p (by omega)] at K
 have hq : (qto zs p : Int) = 256 * zs.getD p 0 + zs.getD (p + 1) 0 - 49152 := by unfold qto; omega
 generalize zs.getD p 0 = x at *
 generalize zs.getD (p + 1) 0 = y at *
 generalize qto zs p = q at *
 obtain ⟨z, hz⟩ : ∃ z, 256 * x + y = z := ⟨_, rfl⟩
 have HQ : Hid ((q : Int) = z - 49152) := (show _ = _ by rw [hq, hz])
 rw [hz] at K
 have hz1 : ¬ z < 49152 := by omega
 have hz2 : z <= 65535 := by omega
 clear hz hq
 go_enter Tryz.func171, Tryz.ntmps171
 go_wp2_with fail
 refine K.out.mono ?_
 rintro e w1 ⟨rfl, rfl⟩
 go_wp2
 go_ret2
 exact ⟨by rw [HQ.out]; rfl, rfl⟩
end Go.Proofs.YteplffhfeoephaaGreat
namespace Go.Proofs.YteplffhfeoephaaGreat
open Go.ChangeShapes Go.WideShapes Go.ChangeAt Go.RowKit
def bhI : Option Nat -> Nat
 | none => 0
 | some q => q
def SPost (r : List ByteArray × Int × Int) (w : World) (e : Ending) (w' : World) : Prop :=
 ∃ v ys, e = .returned (.tuple #[v, .int .i64 r.2.1, .int .i64 r.2.2]) /\ Hid (OwnT w.heap.size w' v r.1.length ys 1000 /\ ys.take r.1.length = r.1 /\ Below w.heap.size w w')
def qres : Option (List ByteArray × Nat) -> List ByteArray × Int × Int
 | some (n, q) => (n, q, 0)
 | none => ([], 0, 8)
theorem nck_len {ss : List ByteArray} (h : nck ss = 0) : ss.length <= 254 := by
 have := nck_small h; have := nsz_len ss; omega
theorem newq_below (w : World) (o : Obj) : Below w.heap.size w (w.alloc o) := (Below.refl _ _).alloc (Nat.le_refl _) _
theorem rd_at {w : World} {a : Option Addr} {zs : List Int} (h : Rd w a zs) (p : Nat) (hp : p < zs.length) : ∃ b o, a = some ⟨b, o, none⟩ /\ b < w.heap.size /\ w.cell? ⟨b, o + p, none⟩ = some (.int .u8 (zs.getD p 0)) := by
 rcases h.1 with h1 | ⟨b, o, rfl, h1, h2⟩
 · subst h1; simp at hp
 · refine ⟨b, o, rfl, h1, ?_⟩
   have := h2 p hp
   rw [this]
   all_goals simp [List.getD_eq_getElem?_getD, List.getElem?_eq_getElem hp]
theorem cell_below {w w' : World} {b : Nat} {o : Nat} {v : Value} (h : Below w.heap.size w w') (hb : b < w.heap.size) (hc : w.cell? ⟨b, o, none⟩ = some v) : w'.cell? ⟨b, o, none⟩ = some v := by
 have := h.block b hb
 simpa [World.cell?, this] using hc
set_option maxHeartbeats 4000000 in
theorem sread_in (a : Option Addr) (len cap d : Nat) (back : Bool) (zs : List Int) (w : World) (hr : Rd w a zs) (hl : zs.length = len) (hm : len <= 140737488355328) (hc : len <= cap) (hc2 : cap <= 9223372036854775807) (hd : d <= len) :
   Calls Tryz.prog 157 #[.slice a len cap, .int .i64 d, .bool back] w (SPost (qres (qgo zs back d d none [])) w) := by
 obtain ⟨R, hR⟩ : ∃ R, qgo zs back d d none [] = R := ⟨_, rfl⟩
 have HR0 : Hid (qgo zs back d d none [] = R) := hR
 rw [hR]
 clear hR
 have HR : Hid (Rd w a zs) := hr
 have HL : Hid (zs.length = len) := hl
 clear hr hl
 have hd1 : ¬ (d : Int) < 0 := by omega
 have hd2 : (d : Int) <= (len : Int) := by omega
 have hd3 : ¬ len < d := by omega
 go_enter Tryz.func157, Tryz.ntmps157
 go_wp2
 go_step3
 go_wp2
 go_step3
 go_wp2
 go_loopw [1, 9, 10, 11, 12] (fun x1 v x10 x11 x12 wr => ∃ (p st B : Nat) (bh : Option Nat) (out : List ByteArray), x1 = .int .i64 p /\ x10 = .int .i64 st /\ x11 = .int .i64 B /\ x12 = .bool false /\ p <= len /\ st <= len /\ B <= len /\ Hid (B = bhI bh /\ (∀ q, bh = some q -> 0 < q)) /\ Hid (qgo zs back p st bh out = R) /\ Hid (nck out = 0) /\ Hid (∃ ys, OwnT w.heap.size wr v out.length ys 1000 /\ ys.take out.length = out) /\ Hid (Below w.heap.size w wr))
   (fun x1 _ x10 _ _ _ => (intOf x10).toNat * (len + 2) + (len + 1 - (intOf x1).toNat))
 case atStart => exact ⟨d, d, 0, none, [], rfl, rfl, rfl, rfl, hd, hd, Nat.zero_le _, ⟨rfl, by simp⟩, HR0, nck_nil, ⟨[], OwnT.nil _ _ _, rfl⟩, Below.refl _ _⟩
 case round =>
   obtain ⟨p, st, B, bh, out, rfl, rfl, rfl, rfl, hp, hst, hBl, HBH, HQ, HC, HW, HB⟩ := hrel
   clear HR0
   by_cases hpl : p < len
   · have hpl' : (p : Int) < (len : Int) := by omega
     have hpz : p < zs.length := by rw [HL.out]; exact hpl
     have hbd := HR.out.bd p
     by_cases h0 : zs.getD p 0 = 0
     · have e : R = some (out, bh.getD (p + 1)) := by rw [<- HQ.out]; exact qgo_end hpz h0
       subst e
       obtain ⟨b, o, rfl, hbo, hcz⟩ := rd_at HR.out p hpz
       have hcz2 := cell_below HB.out hbo hcz
       rw [h0] at hcz2
       obtain ⟨ys, hO, hT⟩ := HW.out
       clear hcz HQ HR
       by_cases hB0 : B = 0
       · subst hB0
         have e2 : bh.getD (p + 1) = p + 1 := by
           cases hh : bh with
           | none => rfl
           | some q => have h1 := HBH.out.1; have h2 := HBH.out.2 q hh; rw [hh] at h1; simp only [bhI] at h1; omega
         have HE : Hid (qres (some (out, bh.getD (p + 1))) = (out, ((p + 1 : Nat) : Int), 0)) := (show _ = _ by rw [e2]; rfl)
         clear e2
         go_wp2_with fail
         try rw [Exit.noGoto_ret]
         go_ret3
         rw [HE.out]
         exact ⟨_, ys, by go_num, hO, hT, HB.out⟩
       · have e2 : bh.getD (p + 1) = B := by
           cases hh : bh with
           | none => have h1 := HBH.out.1; rw [hh] at h1; exact absurd h1 hB0
           | some q => have h1 := HBH.out.1; rw [hh] at h1; exact h1.symm
         have HE : Hid (qres (some (out, bh.getD (p + 1))) = (out, (B : Int), 0)) := (show _ = _ by rw [e2]; rfl)
         clear e2
         have hB1 : ((B : Int) == 0) = false := by simp; omega
         go_wp2_with fail
         try rw [Exit.noGoto_ret]
         go_ret3
         rw [HE.out]
         exact ⟨_, ys, by go_num, hO, hT, HB.out⟩
     · obtain ⟨b, o, rfl, hbo, hcz⟩ := rd_at HR.out p hpz
       have hcz2 := cell_below HB.out hbo hcz
       clear hcz
       obtain ⟨c, hcc⟩ : ∃ c : Nat, zs.getD p 0 = (c : Int) := ⟨(zs.getD p 0).toNat, by omega⟩
       have HCC : Hid (zs.getD p 0 = (c : Int)) := hcc
       have HG0 : Hid (¬ zs.getD p 0 = 0) := h0
       rw [hcc] at hcz2 hbd h0
       have hc0 : ((c : Int) == 0) = false := by simpa using h0
       have hc255 : c <= 255 := by omega
       by_cases h63 : c <= 63
       · have HG1 : Hid (zs.getD p 0 <= 63) := (by show zs.getD p 0 <= 63; rw [hcc]; omega)
         have hc63 : (c : Int) <= 63 := by omega
         by_cases hfit : p + 1 + c <= len
         · have hsl := qlab_size (l := zs) (p := p + 1) (n := c) (by rw [HL.out]; exact hfit)
           have hcap : p + 1 < cap := by omega
           have hfit2 : (p : Int) + 1 + (c : Int) <= (len : Int) := by omega
           have HRs : Hid (Rd w (some ⟨b, o + (p + 1), none⟩) ((zs.drop (p + 1)).take c)) := HR.out.cut (p + 1) c (by rw [HL.out]; omega) (fun h b' o' e => by cases e; rfl)
           have hcv : (convert 29 9 (.slice (some ⟨b, o + (p + 1), none⟩) c (cap - (p + 1)))).run Tryz.prog wr = .ok (.string (qlab zs (p + 1) c)) wr := conv_rd _ _ _ _ _ (HRs.out.below HB.out) (by simp; have := HL.out; omega)
           have HKn : Hid (∀ W a' c', RdT W a' (out ++ [qlab zs (p + 1) c]) -> Calls Tryz.prog 46 #[.slice a' (out.length + 1) c'] W fun e w' => e = .returned (.int .i64 (nck (out ++ [qlab zs (p + 1) c]))) /\ w' = W) := fun W a' c' hW => pm_check c' ⟨hW, by simp, by rw [nsz_snoc, hsl]; have := (nck_small HC.out).1; omega⟩
           have hol := nck_len HC.out
           have HG2 : Hid (p + 1 + (zs.getD p 0).toNat <= zs.length) := (by show _ <= _; rw [HCC.out, HL.out]; simpa using hfit)
           have e1 : (zs.getD p 0).toNat = c := by rw [HCC.out]; simp
           by_cases hk : nck (out ++ [qlab zs (p + 1) c]) = 0
           · have HQ2 : Hid (qgo zs back (p + 1 + c) st bh (out ++ [qlab zs (p + 1) c]) = R) := (show _ = _ by rw [<- HQ.out, qgo_lab hpz HG0.out HG1.out HG2.out (by rw [e1]; exact hk), e1])
             have HC2 : Hid (nck (out ++ [qlab zs (p + 1) c]) = 0) := hk
             rw [hk] at HKn
             generalize qlab zs (p + 1) c = s at *
             obtain ⟨ys, hO, hT⟩ := HW.out
             have hnb : Below wr.heap.size wr (wr.alloc (.cells #[.string s] 9)) := newq_below _ _
             have HO2 : Hid (OwnT w.heap.size (wr.alloc (.cells #[.string s] 9)) u9 out.length ys 1000 /\ ys.take out.length = out) := ⟨hO.below hnb, hT⟩
             have HNB : Hid (Below wr.heap.size wr (wr.alloc (.cells #[.string s] 9))) := hnb
             clear hO hT hnb HQ HR HG0 HG1 HG2 HCC hcc hbd hk e1
             go_wp2_with (at_builtin; refine wpList_append_T tyN _ rfl _ _ 53 9 Tryz.underlying53 rfl w.heap.size _ out.length ys 1000 rfl HO2.out.1 (some ⟨wr.heap.size, 0, none⟩) 1 1 [s] rfl (one_rdT wr s) rfl (by intro x hx; simp at hx; subst hx; omega) (by omega) (Nat.le_trans HB.out.size HNB.out.size) ?_; intro v' w' ys' hO' hT' hG'; have HB2 : Hid (Below w.heap.size w w') := ((HB.out.trans (HNB.out.mono HB.out.size)).grown hG' (Nat.le_trans HB.out.size HNB.out.size) HO2.out.1.1.lt); clear hG')
             obtain ⟨ao', rfl, _⟩ := hO'.out.shape
             have hrd : RdT w' ao' (out ++ [s]) := by
               have := hO'.out.rd (out.length + 1)
               rwa [hT'.out, HO2.out.2] at this
             refine (HKn.out w' ao' _ hrd).mono ?_
             rintro e w2 ⟨rfl, rfl⟩
             clear hrd HKn
             go_wp2_with fail
             go_roundw
             case rel => exact ⟨p + 1 + c, st, B, bh, out ++ [s], by go_num, rfl, rfl, rfl, by omega, by omega, by omega, HBH, HQ2, HC2, ⟨ys', by simpa using hO'.out, by rw [List.length_append]; exact hT'.out.trans (by rw [HO2.out.2])⟩, HB2⟩
             case measure => simp [intOf]; omega
           · have e : R = none := by rw [<- HQ.out]; exact qgo_labBad hpz HG0.out HG1.out HG2.out (by rw [e1]; exact hk)
             subst e
             generalize hN : nck (out ++ [qlab zs (p + 1) c]) = N at *
             have hN1 : (N != 0) = true := by simpa using hk
             have hN2 : (N == 0) = false := by simpa using hk
             generalize qlab zs (p + 1) c = s at *
             obtain ⟨ys, hO, hT⟩ := HW.out
             have hnb : Below wr.heap.size wr (wr.alloc (.cells #[.string s] 9)) := newq_below _ _
             have HO2 : Hid (OwnT w.heap.size (wr.alloc (.cells #[.string s] 9)) u9 out.length ys 1000 /\ ys.take out.length = out) := ⟨hO.below hnb, hT⟩
             have HNB : Hid (Below wr.heap.size wr (wr.alloc (.cells #[.string s] 9))) := hnb
             clear hO hT hnb HQ HR HG0 HG1 HG2 HCC hcc hbd hk e1 hN
             go_wp2_with (at_builtin; refine wpList_append_T tyN _ rfl _ _ 53 9 Tryz.underlying53 rfl w.heap.size _ out.length ys 1000 rfl HO2.out.1 (some ⟨wr.heap.size, 0, none⟩) 1 1 [s] rfl (one_rdT wr s) rfl (by intro x hx; simp at hx; subst hx; omega) (by omega) (Nat.le_trans HB.out.size HNB.out.size) ?_; intro v' w' ys' hO' hT' hG'; have HB2 : Hid (Below w.heap.size w w') := ((HB.out.trans (HNB.out.mono HB.out.size)).grown hG' (Nat.le_trans HB.out.size HNB.out.size) HO2.out.1.1.lt); clear hG')
             obtain ⟨ao', rfl, _⟩ := hO'.out.shape
             have hrd : RdT w' ao' (out ++ [s]) := by
               have := hO'.out.rd (out.length + 1)
               rwa [hT'.out, HO2.out.2] at this
             refine (HKn.out w' ao' _ hrd).mono ?_
             rintro e w2 ⟨rfl, rfl⟩
             clear hrd HKn
             go_wp2_with fail
             try rw [Exit.noGoto_ret]
             go_ret3
             exact ⟨.slice none 0 0, [], rfl, OwnT.nil _ _ _, rfl, HB2.out⟩
         · have hfit' : (len : Int) < (p : Int) + 1 + (c : Int) := by omega
           have e : R = none := by rw [<- HQ.out]; exact qgo_labLong hpz HG0.out HG1.out (by rw [HCC.out, HL.out]; simpa using hfit)
           subst e
           clear HQ HR
           go_wp2_with fail
           try rw [Exit.noGoto_ret]
           go_ret3
           exact ⟨.slice none 0 0, [], rfl, OwnT.nil _ _ _, rfl, HB.out⟩
       · have hc63 : 63 < (c : Int) := by omega
         have HG1 : Hid (¬ zs.getD p 0 <= 63) := (by show ¬ zs.getD p 0 <= 63; rw [hcc]; omega)
         cases back with
         | false =>
           have e : R = none := by rw [<- HQ.out]; exact qgo_no hpz HG1.out (by simp)
           subst e
           clear HQ HR
           go_wp2_with fail
           try rw [Exit.noGoto_ret]
           go_ret3
           exact ⟨.slice none 0 0, [], rfl, OwnT.nil _ _ _, rfl, HB.out⟩
         | true =>
           by_cases hok : 192 <= c /\ p + 1 < len
           · have KP : Hid (∀ W, Below w.heap.size w W -> Calls Tryz.prog 171 #[.slice (some ⟨b, o, none⟩) len cap, .int .i64 p] W fun e w' => e = .returned (.tuple #[.int .i64 (qto zs p : Nat), .bool true]) /\ w' = W) := fun W hW => pointed_yes _ len cap p zs W (HR.out.below hW) HL.out hc hc2 (by omega) (by rw [HCC.out]; omega)
             have HG2 : Hid (true = true /\ 192 <= zs.getD p 0 /\ p + 1 < zs.length) := ⟨rfl, by rw [hcc]; omega, by rw [HL.out]; omega⟩
             by_cases hto : qto zs p < st
             · have HQ2 : Hid (qgo zs true (qto zs p) (qto zs p) (some (bh.getD (p + 2))) out = R) := (show _ = _ by rw [<- HQ.out]; exact (qgo_ptr hpz HG2.out hto).symm)
               generalize qto zs p = t at *
               have hto' : (t : Int) < (st : Int) := by omega
               clear HQ HR HG0 HG1 HG2 HCC hcc hbd
               have hmeas : t * (len + 2) + (len + 1 - t) < st * (len + 2) + (len + 1 - p) := by
                 have h1 : (t + 1) * (len + 2) <= st * (len + 2) := Nat.mul_le_mul_right _ (by omega)
                 have h2 : (t + 1) * (len + 2) = t * (len + 2) + (len + 2) := by rw [Nat.add_mul, Nat.one_mul]
                 omega
               by_cases hB0 : B = 0
               · subst hB0
                 have HBH2 : Hid (p + 2 = bhI (some (bh.getD (p + 2))) /\ (∀ q, some (bh.getD (p + 2)) = some q -> 0 < q)) := by
                   cases hh : bh with
                   | none => exact ⟨rfl, fun q hq => by cases hq; simp⟩
                   | some q => have h1 := HBH.out.1; have h2 := HBH.out.2 q hh; rw [hh] at h1; simp only [bhI] at h1; omega
                 go_wp2_with fail
                 refine (KP.out _ HB.out).mono ?_
                 rintro e w1 ⟨rfl, rfl⟩
                 clear KP
                 go_wp2_with fail
                 go_roundw
                 case rel => exact ⟨t, t, p + 2, some (bh.getD (p + 2)), out, rfl, rfl, by go_num, rfl, by omega, by omega, by omega, HBH2, HQ2, HC, HW, HB⟩
                 case measure => simp [intOf]; exact hmeas
               · have hB1 : ((B : Int) == 0) = false := by simp; omega
                 have HBH2 : Hid (B = bhI (some (bh.getD (p + 2))) /\ (∀ q, some (bh.getD (p + 2)) = some q -> 0 < q)) := by
                   cases hh : bh with
                   | none => have h1 := HBH.out.1; rw [hh] at h1; exact absurd h1 hB0
                   | some q => have h1 := HBH.out.1; have h2 := HBH.out.2 q hh; rw [hh] at h1; exact ⟨h1, fun r hr => by cases hr; exact h2⟩
                 go_wp2_with fail
                 refine (KP.out _ HB.out).mono ?_
                 rintro e w1 ⟨rfl, rfl⟩
                 clear KP
                 go_wp2_with fail
                 go_roundw
                 case rel => exact ⟨t, t, B, some (bh.getD (p + 2)), out, rfl, rfl, rfl, rfl, by omega, by omega, by omega, HBH2, HQ2, HC, HW, HB⟩
                 case measure => simp [intOf]; exact hmeas
             · have e : R = none := by rw [<- HQ.out]; exact qgo_ptrBad hpz HG2.out hto
               subst e
               generalize qto zs p = t at *
               have hto' : (st : Int) <= (t : Int) := by omega
               clear HQ HR HG0 HG1 HG2 HCC hcc hbd
               go_wp2_with fail
               refine (KP.out _ HB.out).mono ?_
               rintro e w1 ⟨rfl, rfl⟩
               clear KP
               go_wp2_with fail
               try rw [Exit.noGoto_ret]
               go_ret3
               exact ⟨.slice none 0 0, [], rfl, OwnT.nil _ _ _, rfl, HB.out⟩
           · have e : R = none := by rw [<- HQ.out]; exact qgo_no hpz HG1.out (by rw [HCC.out, HL.out]; intro h; exact hok ⟨by have := h.2.1; omega, h.2.2⟩)
             subst e
             have KP : Hid (∀ W, Below w.heap.size w W -> Calls Tryz.prog 171 #[.slice (some ⟨b, o, none⟩) len cap, .int .i64 p] W fun e w' => e = .returned (.tuple #[.int .i64 0, .bool false]) /\ w' = W) := fun W hW => by
               by_cases h2 : p + 2 <= len
               · exact pointed_low _ len cap p zs W (HR.out.below hW) HL.out hc hc2 h2 (by rw [HCC.out]; omega)
               · exact pointed_no _ len cap p W hc hc2 (by omega)
             clear HQ HR HG0 HG1 HCC hcc hbd
             go_wp2_with fail
             refine (KP.out _ HB.out).mono ?_
             rintro e w1 ⟨rfl, rfl⟩
             clear KP
             go_wp2_with fail
             try rw [Exit.noGoto_ret]
             go_ret3
             exact ⟨.slice none 0 0, [], rfl, OwnT.nil _ _ _, rfl, HB.out⟩
   · have hge : (len : Int) <= (p : Int) := by omega
     have e : R = none := by rw [<- HQ.out]; exact qgo_out (by rw [HL.out]; exact hpl)
     subst e
     clear HQ
     go_wp2_with fail
     try rw [Exit.noGoto_ret]
     go_ret3
     exact ⟨.slice none 0 0, [], rfl, OwnT.nil _ _ _, rfl, HB.out⟩
end Go.Proofs.YteplffhfeoephaaGreat
namespace Go.Proofs.YteplffhfeoephaaGreat
open Go.ChangeShapes Go.WideShapes Go.ChangeAt Go.RowKit Go.Maps
theorem law9 : Keyed Tryz.prog 9 := string_keyed Tryz.underlying9
theorem zero3 (w : World) : (zeroValue 3).run Tryz.prog w = .ok (.int .i64 0) w := by kernel_rfl
theorem str_inj {a b : ByteArray} (h : (Lit.string a.data.toList) = Lit.string b.data.toList) : a = b := by
 injection h with h
 cases a with | mk x => cases b with | mk y => simp at h; rw [h]
def PlM (w : World) (b : Nat) (pl : List (ByteArray × Nat)) : Prop := ∃ M : DataW Unit, w.ownsMap Tryz.prog 9 (plainElem Tryz.prog 3) b pl.length M /\
 ∀ s : ByteArray, (qfind pl s = none -> has M (.string s.data.toList) = false) /\ (∀ p, qfind pl s = some p -> has M (.string s.data.toList) = true /\ M.atKey (.string s.data.toList) (.lit (.int .i64 0)) = .lit (.int .i64 (p : Int)))
theorem PlM.same {w w' : World} {b : Nat} {pl : List (ByteArray × Nat)} (h : PlM w b pl) (hb : w'.heap[b]? = w.heap[b]?) : PlM w' b pl := by
 obtain ⟨M, h1, h2⟩ := h
 refine ⟨M, ?_, h2⟩
 obtain ⟨es, clock, h3, h4⟩ := h1
 exact ⟨es, clock, hb.trans h3, h4⟩
theorem PlM.isMap {w : World} {b : Nat} {pl : List (ByteArray × Nat)} (h : PlM w b pl) : ∃ es clock, w.heap[b]? = some (.map es clock) := by
 obtain ⟨M, ⟨es, clock, h3, _⟩, _⟩ := h
 exact ⟨es, clock, h3⟩
theorem PlM.made (w : World) : PlM (w.alloc (.map #[] 0)) w.heap.size [] := ⟨.map [], World.ownsMap_made _ _ _ _, fun s => ⟨fun _ => by simp [has], fun p h => by simp [qfind] at h⟩⟩
theorem PlM.put {w' : World} {b : Nat} {pl : List (ByteArray × Nat)} {M : DataW Unit} (s : ByteArray) (p : Nat) (hM : IsMap M) (hf : qfind pl s = none)
   (h2 : ∀ s : ByteArray, (qfind pl s = none -> has M (.string s.data.toList) = false) /\ (∀ p, qfind pl s = some p -> has M (.string s.data.toList) = true /\ M.atKey (.string s.data.toList) (.lit (.int .i64 0)) = .lit (.int .i64 (p : Int))))
   (h3 : w'.ownsMap Tryz.prog 9 (plainElem Tryz.prog 3) b (pl.length + 1) (M.put (.string s.data.toList) (.lit (.int .i64 (p : Int))))) : PlM w' b ((s, p) :: pl) := by
 refine ⟨_, h3, fun r => ?_⟩
 by_cases e : r = s
 · subst e
   have hk : WideAt.IsKeyLit (Lit.string r.data.toList) := by simp [WideAt.IsKeyLit]
   refine ⟨fun h => by simp [qfind] at h, fun q h => ?_⟩
   simp [qfind] at h
   subst h
   exact ⟨has_put_same hM hk _, atKey_put_same hM hk _ _⟩
 · have hne : (Lit.string r.data.toList) ≠ Lit.string s.data.toList := fun h => e (str_inj h)
   rw [has_put_other hne, atKey_put_other hne]
   have : qfind ((s, p) :: pl) r = qfind pl r := by simp [qfind, Ne.symm e]
   rw [this]
   exact h2 r
structure Fr (B : Nat) (w w' : World) : Prop where
 below : Below B w w'
 oth : ∀ (j : Nat) (cs : Array Value) (t : TypeId) (fr : Nat × Nat), w.heap[j]? = some (Obj.cells cs t fr) -> t ≠ 5 -> t ≠ 163 -> w'.heap[j]? = w.heap[j]?
theorem Fr.refl (B : Nat) (w : World) : Fr B w w := ⟨Below.refl _ _, fun _ _ _ _ _ _ _ => rfl⟩
theorem Fr.trans {B : Nat} {a b c : World} (h : Fr B a b) (k : Fr B b c) : Fr B a c :=
 ⟨h.below.trans k.below, fun j cs t fr hj h5 h50 => by
   have e := h.oth j cs t fr hj h5 h50
   exact (k.oth j cs t fr (e.trans hj) h5 h50).trans e⟩
theorem Fr.of {B : Nat} {w w' : World} (h : Below w.heap.size w w') (hB : B <= w.heap.size) : Fr B w w' :=
 ⟨h.mono hB, fun j cs t fr hj _ _ => h.block j (Array.getElem?_eq_some_iff.1 hj).1⟩
structure Wr1 (B : Nat) (w : World) (g : Nat) (tx : List Int) (pl : List (ByteArray × Nat)) (v : Value) (ys : List Int) (mb : Nat) : Prop where
 box : w.heap[g]? = some (.cells #[.pointer (some ⟨g, 0, none⟩), v, .map (some mb)] 163)
 gB : B <= g
 mB : B <= mb
 own : Own B w v tx.length ys
 txt : ys.take tx.length = tx
 map : PlM w mb pl
def Wr (B : Nat) (w : World) (g : Nat) (tx : List Int) (pl : List (ByteArray × Nat)) : Prop := ∃ v ys mb, Wr1 B w g tx pl v ys mb
theorem Own.keepAt {B : Nat} {w w' : World} {v : Value} {n : Nat} {zs : List Int} (h : Own B w v n zs) (hb : ∀ g, v.ownBlock = some g -> g < w.heap.size -> w'.heap[g]? = w.heap[g]?) : Own B w' v n zs := by
 rcases h with h | ⟨g, h1, h2, h3, h4⟩
 · exact .inl h
 · exact .inr ⟨g, h1, h2, h3.same (hb g (by rw [h1]; rfl) h3.lt), h4⟩
theorem Wr1.below {B : Nat} {w w' : World} {g : Nat} {tx : List Int} {pl : List (ByteArray × Nat)} {v : Value} {ys : List Int} {mb : Nat} (h : Wr1 B w g tx pl v ys mb) (hb : Below w.heap.size w w') : Wr1 B w' g tx pl v ys mb :=
 ⟨(hb.block g (Array.getElem?_eq_some_iff.1 h.box).1).trans h.box, h.gB, h.mB, h.own.below hb, h.txt, h.map.same (hb.block mb (by obtain ⟨es, c, e⟩ := h.map.isMap; exact (Array.getElem?_eq_some_iff.1 e).1))⟩
theorem Wr.below {B : Nat} {w w' : World} {g : Nat} {tx : List Int} {pl : List (ByteArray × Nat)} (h : Wr B w g tx pl) (hb : Below w.heap.size w w') : Wr B w' g tx pl := by
 obtain ⟨v, ys, mb, h⟩ := h
 exact ⟨v, ys, mb, h.below hb⟩
theorem Blk.type {w : World} {g : Nat} {zs : List Int} (h : Blk w g zs) : ∃ cs, w.heap[g]? = some (.cells cs 5 (0, 0)) := ⟨_, h.1⟩
theorem Wr.row {B : Nat} {w w' : World} {g : Nat} {tx : List Int} {pl : List (ByteArray × Nat)} (h : Wr B w g tx pl) {o : Option Nat} (hg : w.grownBy w' o) (ho : ∀ j, o = some j -> ∃ (cs : Array Value) (t : TypeId) (fr : Nat × Nat), w.heap[j]? = some (Obj.cells cs t fr) /\ t ≠ 5 /\ t ≠ 163) : Wr B w' g tx pl := by
 obtain ⟨v, ys, mb, h⟩ := h
 refine ⟨v, ys, mb, ?_, h.gB, h.mB, ?_, h.txt, ?_⟩
 · refine (hg.block g (Array.getElem?_eq_some_iff.1 h.box).1 (fun e => ?_)).trans h.box
   obtain ⟨cs, t, fr, e1, e2, e3⟩ := ho g e.symm
   rw [h.box] at e1; cases e1; exact e3 rfl
 · refine h.own.keepAt (fun k hk hl => hg.block k hl (fun e => ?_))
   obtain ⟨cs, t, fr, e1, e2, e3⟩ := ho k e.symm
   rcases h.own with ⟨rfl, _⟩ | ⟨k', rfl, _, hbl, _⟩
   · cases hk
   · obtain rfl : k' = k := Option.some.inj hk
     obtain ⟨cs', e4⟩ := hbl.type
     rw [e4] at e1; cases e1; exact e2 rfl
 · obtain ⟨es, c, e4⟩ := h.map.isMap
   refine h.map.same (hg.block mb (Array.getElem?_eq_some_iff.1 e4).1 (fun e => ?_))
   obtain ⟨cs, t, fr, e1, _⟩ := ho mb e.symm
   rw [e4] at e1; cases e1
theorem eql_ptr_same (a : Addr) (w : World) : (binOp .eql 124 (.pointer (some a)) (.pointer (some a))).run Tryz.prog w = .ok (.bool true) w := by
 obtain ⟨j, hi⟩ : ∃ j, Tryz.prog.info? 163 = some j := Option.isSome_iff_exists.1 (by kernel_rfl)
 have h : ∀ d : Nat, (Op.equalIn (d + 1) 124 (.pointer (some a)) (.pointer (some a))).run Tryz.prog w = .ok true w := fun d => by
   simp [Op.equalIn, run_underlying Tryz.underlying124, sizeOf, typeInfo, hi, run_sameAddr_same]
 simp only [binOp]
 simp [Op.equal, Op.maxDepth, h 9999]
theorem neq_ptr_nil (a : Addr) (w : World) : (binOp .neq 124 (.pointer (some a)) (.pointer none)).run Tryz.prog w = .ok (.bool true) w := by
 have h : ∀ d : Nat, (Op.equalIn (d + 1) 124 (.pointer (some a)) (.pointer none)).run Tryz.prog w = .ok false w := fun d => by
   simp [Op.equalIn, run_underlying Tryz.underlying124]
 simp only [binOp]
 simp [Op.equal, Op.maxDepth, h 9999]
theorem box_cell {w : World} {g : Nat} {cs : Array Value} {t : TypeId} (h : w.heap[g]? = some (.cells cs t)) (k : Nat) (v : Value) (hk : cs[k]? = some v) : w.cell? ⟨g, k, none⟩ = some v := by
 simp [World.cell?, h, hk]
theorem box_frozen {w : World} {g : Nat} {cs : Array Value} {t : TypeId} (h : w.heap[g]? = some (.cells cs t)) (k : Nat) : w.frozen? ⟨g, k, none⟩ = false := by
 simp [World.frozen?, h]
theorem box_lt {w : World} {g : Nat} {o : Obj} (h : w.heap[g]? = some o) : g < w.heap.size := (Array.getElem?_eq_some_iff.1 h).1
theorem box_set {w : World} {g : Nat} {cs : Array Value} {t : TypeId} (h : w.heap[g]? = some (.cells cs t)) (k : Nat) (v : Value) : (w.setCell ⟨g, k, none⟩ v).heap[g]? = some (.cells (cs.setIfInBounds k v) t) := heap_set h k v
theorem made_yes (g : Nat) (w : World) (h : w.cell? ⟨g, 0, none⟩ = some (.pointer (some ⟨g, 0, none⟩))) (hg : g < w.heap.size) :
   Calls Tryz.prog 118 #[.pointer (some ⟨g, 0, none⟩)] w fun e w' => e = .returned (.bool true) /\ w' = w := by
 have h1 := eql_ptr_same ⟨g, 0, none⟩
 have h2 := neq_ptr_nil ⟨g, 0, none⟩
 go_enter Tryz.func118, Tryz.ntmps118
 go_wp2
 go_ret
 exact ⟨rfl, rfl⟩
theorem len_any (B g : Nat) (tx : List Int) (pl : List (ByteArray × Nat)) (w : World) (h : Wr B w g tx pl) :
   Calls Tryz.prog 115 #[.pointer (some ⟨g, 0, none⟩)] w fun e w' => e = .returned (.int .i64 tx.length) /\ w' = w := by
 obtain ⟨v, ys, mb, h⟩ := h
 have hg := box_lt h.box
 have c0 := box_cell h.box 0 _ rfl
 have c1 := box_cell h.box 1 _ rfl
 obtain ⟨ao, rfl, _⟩ := h.own.addr
 generalize tx.length = n at *
 have KM := Lib.hid (made_yes g w c0 hg)
 go_enter Tryz.func115, Tryz.ntmps115
 go_wp2_with fail
 refine KM.out.mono ?_
 rintro e w1 ⟨rfl, rfl⟩
 go_wp2
 go_ret
 exact ⟨rfl, rfl⟩
set_option maxHeartbeats 1000000 in
theorem all_any (B g : Nat) (tx : List Int) (pl : List (ByteArray × Nat)) (w : World) (h : Wr B w g tx pl) (ht : tx.length <= 100000) :
   Calls Tryz.prog 82 #[.pointer (some ⟨g, 0, none⟩)] w fun e w' => ∃ v ys, e = .returned v /\ Hid (Own w.heap.size w' v tx.length ys /\ ys.take tx.length = tx /\ Below w.heap.size w w') := by
 obtain ⟨v, ys, mb, h⟩ := h
 have hg := box_lt h.box
 have c0 := box_cell h.box 0 _ rfl
 have c1 := box_cell h.box 1 _ rfl
 obtain ⟨ao, rfl, hA⟩ := h.own.addr
 have HR : Hid (Rd w ao tx) := by have := hA.rdTake tx.length; rw [h.txt] at this; exact this
 have HN : Hid (ao = none -> tx.length = 0 /\ ys.length = 0) := fun e => by have := hA.nil e; have := hA.le; omega
 obtain ⟨n, hn⟩ : ∃ n, tx.length = n := ⟨_, rfl⟩
 have KM := Lib.hid (made_yes g w c0 hg)
 have KC : Hid (Calls Tryz.prog 119 #[.slice ao n ys.length] w fun e w' => ∃ v ys, e = .returned v /\ Hid (Own w.heap.size w' v n ys /\ ys.take n = tx /\ Below w.heap.size w w')) := by
   cases ao with
   | none =>
     obtain ⟨e1, e2⟩ := HN.out rfl
     rw [e2, <- hn, e1]
     refine (clone_none w).mono ?_
     rintro e w' ⟨rfl, rfl⟩
     exact ⟨_, [], rfl, .inl ⟨rfl, rfl, rfl⟩, (List.eq_nil_of_length_eq_zero e1).symm ▸ rfl, Below.refl _ _⟩
   | some x =>
     rw [<- hn]
     refine (clone_any x _ tx w HR.out (by omega)).mono ?_
     rintro e w' ⟨v, zs, rfl, h1, h2, h3⟩
     exact ⟨v, zs, rfl, h1, h2, h3⟩
 rw [hn] at c1 ⊢
 generalize ys.length = C at *
 clear h hA HN HR
 go_enter Tryz.func82, Tryz.ntmps82
 go_wp2_with fail
 refine KM.out.mono ?_
 rintro e w1 ⟨rfl, rfl⟩
 go_wp2_with fail
 refine KC.out.mono ?_
 rintro e w2 ⟨v, zs, rfl, H2⟩
 go_wp2
 go_ret
 exact ⟨v, zs, rfl, H2⟩
end Go.Proofs.YteplffhfeoephaaGreat
namespace Go.Proofs.YteplffhfeoephaaGreat
open Go.ChangeShapes Go.WideShapes Go.ChangeAt Go.RowKit
structure Hd where
 id : Nat
 rs : Bool
 op : Int
 aa : Bool
 tc : Bool
 rd : Bool
 ra : Bool
 ad : Bool
 cd : Bool
 rc : Int
structure MA where
 q : Sl
 l1 : Sl
 l2 : Sl
 l3 : Sl
def thrown : List PanicEntry := [{ v := .iface 102 (.agg #[]), recovered := false }]
theorem need_yes (w : World) : Calls Tryz.prog 102 #[.bool true] w fun e w' => e = .returned (.tuple #[]) /\ w' = w := by
 go_enter Tryz.func102, Tryz.ntmps102
 go_wp2
 go_end0
 exact ⟨rfl, rfl⟩
theorem need_no (w : World) : Calls Tryz.prog 102 #[.bool false] w fun e w' => e = .panicked thrown /\ w' = w := by
 go_enter Tryz.func102, Tryz.ntmps102
 go_wp2
 exact ⟨rfl, rfl, rfl⟩
theorem namesin_any (t : Nat) (w : World) : Calls Tryz.prog 148 #[.int .u16 t] w fun e w' => e = .returned (.tuple #[.int .i64 (ahd t), .int .i64 (cnt t)]) /\ w' = w := by
 have key : (t = 2 ∨ t = 5 ∨ t = 12) ∨ t = 6 ∨ t = 15 ∨ t = 33 ∨ (((t : Int) == 2) = false /\ ((t : Int) == 5) = false /\ ((t : Int) == 12) = false /\ ((t : Int) == 6) = false /\ ((t : Int) == 15) = false /\ ((t : Int) == 33) = false /\ ahd t = 0 /\ cnt t = 0) := by
   by_cases h : t = 2 ∨ t = 5 ∨ t = 12 ∨ t = 6 ∨ t = 15 ∨ t = 33
   · omega
   · refine .inr (.inr (.inr (.inr ?_)))
     simp only [ahd, cnt, beq_eq_false_iff_ne]
     refine ⟨by omega, by omega, by omega, by omega, by omega, by omega, by rw [if_neg (by omega), if_neg (by omega)], by rw [if_neg (by omega), if_neg (by omega)]⟩
 rcases key with (rfl | rfl | rfl) | rfl | rfl | rfl | ⟨h1, h2, h3, h4, h5, h6, e1, e2⟩
 case inr.inr.inr.inr =>
   rw [e1, e2]
   clear e1 e2
   go_enter Tryz.func148, Tryz.ntmps148
   go_wp2
   go_ret2
   exact ⟨rfl, rfl⟩
 all_goals
   go_enter Tryz.func148, Tryz.ntmps148
   go_wp2
   go_ret2
   exact ⟨rfl, rfl⟩
theorem squeezed_any (t : Nat) (w : World) : Calls Tryz.prog 149 #[.int .u16 t] w fun e w' => e = .returned (.bool (sqt t)) /\ w' = w := by
 have key : (t = 2 ∨ t = 5 ∨ t = 6 ∨ t = 12 ∨ t = 15) ∨ (((t : Int) == 2) = false /\ ((t : Int) == 5) = false /\ ((t : Int) == 6) = false /\ ((t : Int) == 12) = false /\ ((t : Int) == 15) = false /\ sqt t = false) := by
   by_cases h : t = 2 ∨ t = 5 ∨ t = 6 ∨ t = 12 ∨ t = 15
   · exact .inl h
   · refine .inr ?_
     simp only [sqt, beq_eq_false_iff_ne, decide_eq_false_iff_not]
     omega
 rcases key with (rfl | rfl | rfl | rfl | rfl) | ⟨h1, h2, h3, h4, h5, e1⟩
 case inr =>
   rw [e1]
   clear e1
   go_enter Tryz.func149, Tryz.ntmps149
   go_wp2
   go_ret
   exact ⟨rfl, rfl⟩
 all_goals
   go_enter Tryz.func149, Tryz.ntmps149
   go_wp2
   go_ret
   exact ⟨rfl, rfl⟩
theorem sections_any (b : Nat) (w : World) : Calls Tryz.prog 47 #[.pointer (some ⟨b, 0, none⟩)] w fun e w' => e = .returned (.agg #[.pointer (some ⟨b, 11, none⟩), .pointer (some ⟨b, 12, none⟩), .pointer (some ⟨b, 13, none⟩)]) /\ Hid (Below w.heap.size w w') := by
 go_enter Tryz.func47, Tryz.ntmps47
 go_wp2
 go_region
 go_wp2
 refine bodyPost_ret (v := .agg #[.pointer (some ⟨b, 11, none⟩), .pointer (some ⟨b, 12, none⟩), .pointer (some ⟨b, 13, none⟩)]) ?_ rfl ⟨rfl, ?_⟩
 · simp [results, Tryz.results47, go_sem]
 exact ((Below.refl _ _).alloc (Nat.le_refl _) _).drew
theorem ixS0 (b : Nat) (w : World) : (Instr.index 82 (.agg #[.pointer (some ⟨b, 11, none⟩), .pointer (some ⟨b, 12, none⟩), .pointer (some ⟨b, 13, none⟩)]) (.int .i64 0)).run Tryz.prog w = .ok (.pointer (some ⟨b, 11, none⟩)) w := by kernel_rfl
theorem ixS1 (b : Nat) (w : World) : (Instr.index 82 (.agg #[.pointer (some ⟨b, 11, none⟩), .pointer (some ⟨b, 12, none⟩), .pointer (some ⟨b, 13, none⟩)]) (.int .i64 1)).run Tryz.prog w = .ok (.pointer (some ⟨b, 12, none⟩)) w := by kernel_rfl
theorem ixS2 (b : Nat) (w : World) : (Instr.index 82 (.agg #[.pointer (some ⟨b, 11, none⟩), .pointer (some ⟨b, 12, none⟩), .pointer (some ⟨b, 13, none⟩)]) (.int .i64 2)).run Tryz.prog w = .ok (.pointer (some ⟨b, 13, none⟩)) w := by kernel_rfl
theorem ixS (b k : Nat) (hk : k < 3) (w : World) : (Instr.index 82 (.agg #[.pointer (some ⟨b, 11, none⟩), .pointer (some ⟨b, 12, none⟩), .pointer (some ⟨b, 13, none⟩)]) (.int .i64 (k : Int))).run Tryz.prog w = .ok (.pointer (some ⟨b, 11 + k, none⟩)) w := by
 have : k = 0 ∨ k = 1 ∨ k = 2 := by omega
 rcases this with rfl | rfl | rfl
 · exact ixS0 b w
 · exact ixS1 b w
 · exact ixS2 b w
theorem mbox_new (H : Hd) (x : MA) (w : World) : (w.alloc (.cells #[.int .u16 H.id, .bool H.rs, .int .i64 H.op, .bool H.aa, .bool H.tc, .bool H.rd, .bool H.ra, .bool H.ad, .bool H.cd, .int .i64 H.rc, .slice x.q.a x.q.n x.q.c, .slice x.l1.a x.l1.n x.l1.c, .slice x.l2.a x.l2.n x.l2.c, .slice x.l3.a x.l3.n x.l3.c] 26)).heap[w.heap.size]? = some (.cells #[.int .u16 H.id, .bool H.rs, .int .i64 H.op, .bool H.aa, .bool H.tc, .bool H.rd, .bool H.ra, .bool H.ad, .bool H.cd, .int .i64 H.rc, .slice x.q.a x.q.n x.q.c, .slice x.l1.a x.l1.n x.l1.c, .slice x.l2.a x.l2.n x.l2.c, .slice x.l3.a x.l3.n x.l3.c] 26) := heap_alloc_new _ _
def nth3 (x : MA) (k : Nat) : Sl := if k = 0 then x.l1 else if k = 1 then x.l2 else x.l3
theorem mbox_list {H : Hd} {x : MA} {w : World} {b : Nat} (h : w.heap[b]? = some (.cells #[.int .u16 H.id, .bool H.rs, .int .i64 H.op, .bool H.aa, .bool H.tc, .bool H.rd, .bool H.ra, .bool H.ad, .bool H.cd, .int .i64 H.rc, .slice x.q.a x.q.n x.q.c, .slice x.l1.a x.l1.n x.l1.c, .slice x.l2.a x.l2.n x.l2.c, .slice x.l3.a x.l3.n x.l3.c] 26)) (k : Nat) (hk : k < 3) : w.cell? ⟨b, 11 + k, none⟩ = some (.slice (nth3 x k).a (nth3 x k).n (nth3 x k).c) := by
 have : k = 0 ∨ k = 1 ∨ k = 2 := by omega
 rcases this with rfl | rfl | rfl <;> simp [World.cell?, h, nth3]
def sum3 (x : MA) (k : Nat) : Nat := (if 0 < k then x.l1.n else 0) + (if 1 < k then x.l2.n else 0) + (if 2 < k then x.l3.n else 0)
theorem sum3_step (x : MA) (k : Nat) (hk : k < 3) : sum3 x (k + 1) = sum3 x k + (nth3 x k).n := by
 have : k = 0 ∨ k = 1 ∨ k = 2 := by omega
 rcases this with rfl | rfl | rfl <;> simp [sum3, nth3]
theorem sum3_le (x : MA) (k : Nat) : sum3 x k <= x.l1.n + x.l2.n + x.l3.n := by
 unfold sum3
 split <;> split <;> split <;> omega
set_option maxHeartbeats 1000000 in
theorem total_any (H : Hd) (x : MA) (w : World) (hs : x.l1.n + x.l2.n + x.l3.n <= 1000000000) : Calls Tryz.prog 36 #[.agg #[.int .u16 H.id, .bool H.rs, .int .i64 H.op, .bool H.aa, .bool H.tc, .bool H.rd, .bool H.ra, .bool H.ad, .bool H.cd, .int .i64 H.rc, .slice x.q.a x.q.n x.q.c, .slice x.l1.a x.l1.n x.l1.c, .slice x.l2.a x.l2.n x.l2.c, .slice x.l3.a x.l3.n x.l3.c]] w fun e w' => e = .returned (.int .i64 ((x.l1.n + x.l2.n + x.l3.n : Nat) : Int)) /\ Hid (Below w.heap.size w w') := by
 have KS := Lib.hid (sections_any w.heap.size (w.alloc (.cells #[.int .u16 H.id, .bool H.rs, .int .i64 H.op, .bool H.aa, .bool H.tc, .bool H.rd, .bool H.ra, .bool H.ad, .bool H.cd, .int .i64 H.rc, .slice x.q.a x.q.n x.q.c, .slice x.l1.a x.l1.n x.l1.c, .slice x.l2.a x.l2.n x.l2.c, .slice x.l3.a x.l3.n x.l3.c] 26)))
 go_enter Tryz.func36, Tryz.ntmps36
 go_wp2_with fail
 refine KS.out.mono ?_
 rintro e w1 ⟨rfl, H1⟩
 have HB : Hid (w1.heap[w.heap.size]? = some (.cells #[.int .u16 H.id, .bool H.rs, .int .i64 H.op, .bool H.aa, .bool H.tc, .bool H.rd, .bool H.ra, .bool H.ad, .bool H.cd, .int .i64 H.rc, .slice x.q.a x.q.n x.q.c, .slice x.l1.a x.l1.n x.l1.c, .slice x.l2.a x.l2.n x.l2.c, .slice x.l3.a x.l3.n x.l3.c] 26)) := (H1.out.block _ (by simp)).trans (mbox_new H x w)
 have hlt : w.heap.size < w1.heap.size := box_lt HB.out
 have HB1 : Hid (Below w.heap.size w w1) := ((Below.refl _ w).alloc (Nat.le_refl _) _).trans (H1.out.mono (by simp))
 clear H1 KS
 go_wp2_with fail
 go_loopw [3, 7] (fun y z wr => ∃ k : Nat, k <= 3 /\ y = .int .i64 (sum3 x k : Nat) /\ z = .int .i64 k /\ wr = w1) (fun _ z _ => 3 - (intOf z).toNat)
 case atStart => exact ⟨0, by omega, rfl, rfl, rfl⟩
 case round =>
   obtain ⟨k, hk, rfl, rfl, rfl⟩ := hrel
   by_cases hlt3 : k < 3
   · have h3 : (k : Int) < 3 := by omega
     have hix := ixS w.heap.size k hlt3
     have hc := mbox_list HB.out k hlt3
     have hst := sum3_step x k hlt3
     have hle := sum3_le x (k + 1)
     have HST : Hid (sum3 x (k + 1) = sum3 x k + (nth3 x k).n) := hst
     have hle2 : sum3 x k + (nth3 x k).n <= 1000000000 := by omega
     clear hst hle
     generalize nth3 x k = s at *
     generalize sum3 x k = S at *
     go_wp2
     exact ⟨⟨k + 1, by omega, by rw [HST.out]; go_num, by go_num, trivial⟩, by simp [intOf]; omega⟩
   · obtain rfl : k = 3 := by omega
     go_wp2
     go_ret
     exact ⟨by simp [sum3], HB1.out⟩
end Go.Proofs.YteplffhfeoephaaGreat
namespace Go.Proofs.YteplffhfeoephaaGreat
open Go.ChangeShapes Go.WideShapes Go.ChangeAt Go.RowKit
theorem new_b (w : World) (zs : List Int) (n : Nat) (hn : zs.length = n) (hm : n <= 1000) (hb : ∀ z ∈ zs, 0 <= z /\ z <= 255) : BRd (w.alloc (.cells (zs.map (Value.int .u8)).toArray 5)) ⟨some ⟨w.heap.size, 0, none⟩, n, n⟩ zs := by
 refine ⟨⟨?_, hb⟩, hn, ⟨Nat.le_refl _, by simp only; omega⟩, by simp⟩
 have hblk : Blk (w.alloc (.cells (zs.map (Value.int .u8)).toArray 5)) w.heap.size zs := ⟨heap_alloc_new _ _, hb⟩
 exact .inr ⟨w.heap.size, 0, rfl, hblk.lt, fun i hi => by rw [Nat.zero_add]; exact hblk.cell i hi⟩
end Go.Proofs.YteplffhfeoephaaGreat
namespace Go.Proofs.YteplffhfeoephaaGreat
open Go.ChangeShapes Go.WideShapes Go.ChangeAt Go.RowKit
theorem wlen {t : Nat} {d : Dat} (hck : checkF t d = 0) : (writeF t d).length <= 65535 := by
 obtain ⟨hm, hf, hnk, hsz⟩ := check_parts hck
 have hwr := wrt_of hck
 obtain ⟨hq1, hq2, hq3, hq4, hq5, hq6⟩ := wr_eq t d hf
 rw [<- hq6]
 have h1 := hwr.sz
 rw [hq1, <- hq4] at h1
 have h2 : (ptB (d.ts.length - (fs t).tl) d.ts).length = (tsB t d.ts).length := by
   have e1 := congrArg List.length hq6
   unfold writeF at e1
   by_cases h6 : t = 6
   · obtain ⟨_, e2, e3⟩ := hwr.soa h6
     rw [e2]; simp [ptB, tsB, nby]
   · rw [if_neg h6, hq1, hq4] at e1
     simp only [List.length_append] at e1
     omega
 simp only [List.length_append] at h1 ⊢
 omega
end Go.Proofs.YteplffhfeoephaaGreat
namespace Go.Proofs.YteplffhfeoephaaGreat
open Go.ChangeShapes Go.WideShapes Go.ChangeAt Go.RowKit
theorem names_plain : ∀ (ns : List (List ByteArray)) (pl : PLs) (k : Nat), (pls (ns.map fun n => pnm n false) pl k).1 = ns.flatMap nmB
 | [], pl, k => rfl
 | n :: r, pl, k => by
   have ih := names_plain r
   simp only [List.map_cons, pls, psq, List.flatMap_cons, ih, pnm, nmB, Bool.false_eq_true, if_false, qshort_nil]
theorem flat_nmB_len : ∀ ns : List (List ByteArray), (ns.flatMap nmB).length = (ns.map nsz).sum
 | [] => rfl
 | n :: r => by simp only [List.flatMap_cons, List.length_append, nmB_len, flat_nmB_len r, List.map_cons, List.sum_cons]
theorem nums_len2 {us : List Nat} {wd : Nat} (h : wd = 1 ∨ wd = 2 ∨ wd = 4) : (us.flatMap fun n => numB n wd).length = us.length * wd := by
 induction us with
 | nil => simp
 | cons u r ih => simp only [List.flatMap_cons, List.length_append, numB_len u wd h, ih, List.length_cons, Nat.succ_mul]; omega
theorem wr_split {t : Nat} {d : Dat} (h : checkF t d = 0) : (writeF t d).take (ahd t) ++ (d.ns.flatMap nmB ++ (writeF t d).drop (ahd t + dns d)) = writeF t d /\ ahd t + dns d <= (writeF t d).length /\ (sqt t = true -> cnt t = d.ns.length) := by
 obtain ⟨_, hf, _, _⟩ := check_parts h
 have F := (fit_iff t d).1 hf
 have hN := flat_nmB_len d.ns
 have e0 : ∀ (A B C : List Int) (k m : Nat), A.length = k -> B.length = m -> (A ++ (B ++ C)).take k ++ (B ++ (A ++ (B ++ C)).drop (k + m)) = A ++ (B ++ C) /\ k + m <= (A ++ (B ++ C)).length := by
   intro A B C k m hA hB
   subst hA hB
   refine ⟨?_, by simp⟩
   rw [List.take_left, <- List.append_assoc A B C, show A.length + B.length = (A ++ B).length by simp, List.drop_left, List.append_assoc]
 have key : ∃ A C, A.length = ahd t /\ writeF t d = A ++ (d.ns.flatMap nmB ++ C) := by
   unfold writeF ahd
   have hc := shp_cases t
   by_cases h6 : t = 6
   · subst h6
     exact ⟨[], d.us.flatMap (fun n => numB n 4), rfl, by simp⟩
   · rw [if_neg h6]
     by_cases h15 : t = 15
     · subst h15
       have : d.us.length = 1 := F.us
       exact ⟨d.us.flatMap (fun n => numB n (shp 15).wd), tsB 15 d.ts ++ d.raw, by rw [nums_len2 (by decide), this]; decide, by simp⟩
     · by_cases h33 : t = 33
       · subst h33
         have : d.us.length = 3 := F.us
         exact ⟨d.us.flatMap (fun n => numB n (shp 33).wd), tsB 33 d.ts ++ d.raw, by rw [nums_len2 (by decide), this]; decide, by simp⟩
       · rw [if_neg h15, if_neg h33]
         by_cases hn : d.ns = []
         · exact ⟨[], d.us.flatMap (fun n => numB n (shp t).wd) ++ (tsB t d.ts ++ d.raw), rfl, by rw [hn]; simp⟩
         · have hl : d.ns.length ≠ 0 := fun e => hn (List.eq_nil_of_length_eq_zero e)
           rw [F.ns] at hl
           have hu : d.us.length = 0 := by
             rw [F.us]
             rcases hc with ⟨_, e⟩ | ⟨_, e⟩ | ⟨_, e⟩ | ⟨e, _⟩ | ⟨e, _⟩ | ⟨e, _⟩ | ⟨_, e⟩ | ⟨_, e⟩ | ⟨_, e⟩
             all_goals first | (rw [e]; done) | (rw [e] at hl; exact absurd rfl hl) | (exact absurd e (by assumption))
           have : d.us = [] := List.eq_nil_of_length_eq_zero hu
           exact ⟨[], tsB t d.ts ++ d.raw, rfl, by rw [this]; simp⟩
 obtain ⟨A, C, hA, hw⟩ := key
 obtain ⟨h1, h2⟩ := e0 A (d.ns.flatMap nmB) C (ahd t) (dns d) hA hN
 rw [hw]
 refine ⟨h1, h2, fun hs => ?_⟩
 rw [F.ns]
 unfold sqt at hs
 have := of_decide_eq_true hs
 rcases this with rfl | rfl | rfl | rfl | rfl <;> rfl
theorem bak_names (ns : List (List ByteArray)) (back : Bool) (h : ∀ n ∈ ns, nck n = 0) : Bak (pls (ns.map fun n => pnm n back)) (fun zs => gmany (gnm zs) ns.length) ns := by
 have := bak_many (r := gnm) (ns.map fun n => (pnm n back, n)) (by
   intro x hx
   obtain ⟨n, hn, rfl⟩ := List.mem_map.1 hx
   exact ⟨bak_nm n back (h n hn), kps_nm n back (h n hn)⟩)
 simpa [List.map_map, Function.comp_def] using this
theorem take_mid (A B C : List Int) (k m : Nat) (hA : A.length = k) (hB : B.length = m) : ((A ++ (B ++ C)).drop k).take m = B := by
 subst hA hB
 rw [List.drop_left, List.take_left]
theorem dat_bytes {t : Nat} {d : Dat} (h : checkF t d = 0) (hs : sqt t = false) (pl : PLs) (k : Nat) : (pdat t d pl k).1 = writeF t d := by
 simp only [pdat, psq, pby, hs]
 rw [names_plain]
 exact (wr_split h).1
theorem gpl_back {t : Nat} {d : Dat} (h : checkF t d = 0) (tx : List Int) (pl : PLs) (R : List Int) (hI : QInv tx pl) (hl : tx.length + (pdat t d pl tx.length).1.length <= 65535) :
   gpl t (tx ++ ((pdat t d pl tx.length).1 ++ R)) tx.length (tx.length + (pdat t d pl tx.length).1.length) = some (writeF t d) := by
 unfold gpl
 cases hs : sqt t with
 | false =>
   rw [if_neg (by simp), dat_bytes h hs, Nat.add_sub_cancel_left, List.drop_left, List.take_left]
 | true =>
   rw [if_pos rfl]
   obtain ⟨h1, h2, h3⟩ := wr_split h
   have hA : ((writeF t d).take (ahd t)).length = ahd t := by rw [List.length_take]; omega
   rw [h3 hs]
   generalize hAA : (writeF t d).take (ahd t) = A at *
   generalize hCC : (writeF t d).drop (ahd t + dns d) = C at *
   have hb := bak_names d.ns true (check_parts h).2.2.1 (tx ++ A) pl (C ++ R) hI.more
   have e : (pdat t d pl tx.length).1 = A ++ ((pls (d.ns.map fun n => pnm n true) pl (tx.length + A.length)).1 ++ C) := by
     simp only [pdat, psq, pby, hs, hAA, hCC]
   rw [e] at hl ⊢
   simp only [List.length_append] at hb hl ⊢
   generalize (pls (d.ns.map fun n => pnm n true) pl (tx.length + A.length)).1 = N at *
   have hb := hb (by omega)
   rw [hA] at hb hl ⊢
   rw [if_pos (by omega)]
   simp only [List.append_assoc] at hb ⊢
   rw [hb]
   simp only [Option.bind_some]
   rw [if_pos (by omega)]
   congr 1
   rw [take_mid tx A _ tx.length (ahd t) rfl hA]
   have e2 : tx ++ (A ++ (N ++ (C ++ R))) = (tx ++ A ++ N) ++ (C ++ R) := by simp
   rw [e2, show tx.length + (ahd t + (N.length + C.length)) - (tx.length + ahd t + N.length) = C.length by omega, take_mid (tx ++ A ++ N) C R _ C.length (by simp only [List.length_append, hA]) rfl]
   exact h1
theorem bak_dat {t : Nat} {d : Dat} (h : checkF t d = 0) : Bak (psz (pdat t d)) (fun zs p => (g16 zs p).bind fun s => gdat t s.1 zs s.2) d := by
 intro tx pl R hI hl
 simp only [psz, List.length_append] at hl ⊢
 generalize hD : pdat t d pl (tx.length + 2) = D at *
 have hn : (numB D.1.length 2).length = 2 := numB_len _ _ (by omega)
 have h16 := bak_16 D.1.length (by omega) tx pl (D.1 ++ R) hI (by simp only [pby]; omega)
 simp only [pby] at h16
 rw [List.append_assoc, h16]
 simp only [Option.bind_some]
 unfold gdat
 rw [if_pos (by simp only [List.length_append]; omega)]
 have hg := gpl_back h (tx ++ numB D.1.length 2) pl R hI.more
 simp only [List.length_append, hn, hD] at hg
 have hg := hg (by omega)
 rw [List.append_assoc] at hg
 rw [hn, hg]
 simp only [Option.bind_some]
 unfold gdr
 rw [if_pos ⟨(check_parts h).1, wlen h⟩, read_write t d h]
 simp only [Option.map_some]
 rw [Nat.add_assoc]
theorem bak_rec {r : Rec} (ho : nck r.ow = 0) (h : checkF r.t r.d = 0) (ht : r.t <= 65535) (hc : r.cl <= 65535) (hl : r.tt <= 4294967295) : Bak (prec r) grec r := by
 have e := bak_bind (k := fun o zs p => (g16 zs p).bind fun t => (g16 zs t.2).bind fun c => (g32 zs c.2).bind fun l => (g16 zs l.2).bind fun s => (gdat t.1 s.1 zs s.2).map fun d => ((⟨o, t.1, c.1, l.1, d.1⟩ : Rec), d.2)) (y := r) (bak_nm r.ow true ho) (kps_nm _ _ ho)
   (bak_bind (k := fun t zs p => (g16 zs p).bind fun c => (g32 zs c.2).bind fun l => (g16 zs l.2).bind fun s => (gdat t s.1 zs s.2).map fun d => ((⟨r.ow, t, c.1, l.1, d.1⟩ : Rec), d.2)) (y := r) (bak_16 r.t ht) (kps_by _)
     (bak_bind (k := fun c zs p => (g32 zs p).bind fun l => (g16 zs l.2).bind fun s => (gdat r.t s.1 zs s.2).map fun d => ((⟨r.ow, r.t, c, l.1, d.1⟩ : Rec), d.2)) (y := r) (bak_16 r.cl hc) (kps_by _)
       (bak_bind (k := fun l zs p => (g16 zs p).bind fun s => (gdat r.t s.1 zs s.2).map fun d => ((⟨r.ow, r.t, r.cl, l, d.1⟩ : Rec), d.2)) (y := r) (bak_32 r.tt hl) (kps_by _) (by
         have := bak_map (fun d => (⟨r.ow, r.t, r.cl, r.tt, d⟩ : Rec)) (bak_dat h)
         intro tx pl R hI hl
         have h2 := this tx pl R hI hl
         simp only [Option.map_bind] at h2
         exact h2))))
 exact e
theorem bak_qn {q : Qn} (ho : nck q.nm = 0) (ht : q.ty <= 65535) (hc : q.cl <= 65535) : Bak (pqn q) gqn q := by
 have e := bak_bind (k := fun o zs p => (g16 zs p).bind fun t => (g16 zs t.2).map fun c => ((⟨o, t.1, c.1⟩ : Qn), c.2)) (y := q) (bak_nm q.nm true ho) (kps_nm _ _ ho)
   (bak_bind (k := fun t zs p => (g16 zs p).map fun c => ((⟨q.nm, t, c.1⟩ : Qn), c.2)) (y := q) (bak_16 q.ty ht) (kps_by _)
     (bak_map (fun c => (⟨q.nm, q.ty, c⟩ : Qn)) (bak_16 q.cl hc)))
 exact e
end Go.Proofs.YteplffhfeoephaaGreat
namespace Go.Proofs.YteplffhfeoephaaGreat
open Go.ChangeShapes Go.WideShapes Go.ChangeAt Go.RowKit
set_option maxHeartbeats 1000000 in
theorem flags40 (b : Nat) (w : World) :
   Calls Tryz.prog 120 #[.pointer (some ⟨b, 0, none⟩)] w fun e w' => e = .returned (.agg #[.int .i64 32768, .pointer (some ⟨b, 1, none⟩), .int .i64 1024, .pointer (some ⟨b, 3, none⟩), .int .i64 512, .pointer (some ⟨b, 4, none⟩), .int .i64 256, .pointer (some ⟨b, 5, none⟩), .int .i64 128, .pointer (some ⟨b, 6, none⟩), .int .i64 32, .pointer (some ⟨b, 7, none⟩), .int .i64 16, .pointer (some ⟨b, 8, none⟩)]) /\ Below w.heap.size w w' := by
 go_enter Tryz.func120, Tryz.ntmps120
 go_wp2
 go_region
 go_wp2
 refine bodyPost_ret (v := .agg #[.int .i64 32768, .pointer (some ⟨b, 1, none⟩), .int .i64 1024, .pointer (some ⟨b, 3, none⟩), .int .i64 512, .pointer (some ⟨b, 4, none⟩), .int .i64 256, .pointer (some ⟨b, 5, none⟩), .int .i64 128, .pointer (some ⟨b, 6, none⟩), .int .i64 32, .pointer (some ⟨b, 7, none⟩), .int .i64 16, .pointer (some ⟨b, 8, none⟩)]) ?_ rfl ⟨rfl, ?_⟩
 · simp [results, Tryz.results120, go_sem]
 exact ((Below.refl _ _).alloc (Nat.le_refl _) _).drew
end Go.Proofs.YteplffhfeoephaaGreat
namespace Go.Proofs.YteplffhfeoephaaGreat
theorem wrap_i64_nat (n : Nat) (h : n < 65536) : IntKind.i64.wrap (n : Int) = (n : Int) := by
 have e : (n : Int) % 2 ^ 64 = n := Int.emod_eq_of_lt (by omega) (by omega)
 simp only [IntKind.wrap, IntKind.bits, IntKind.signed, e]
 rw [if_neg]
 simp
 omega
theorem i64_or_nat (a b : Nat) (ha : a < 65536) (hb : b < 65536) : bits .or .i64 (a : Int) (b : Int) = ((a ||| b : Nat) : Int) := by
 have hx : a ||| b < 2 ^ 16 := Nat.or_lt_two_pow (by omega) (by omega)
 show IntKind.i64.wrap ((BitVec.ofInt 64 (a : Int) ||| BitVec.ofInt 64 (b : Int)).toNat : Int) = _
 rw [BitVec.toNat_or, ofInt_u64 a (by omega), ofInt_u64 b (by omega)]
 exact wrap_i64_nat _ (by omega)
theorem i64_and_nat (a b : Nat) (ha : a < 65536) (hb : b < 65536) : bits .and .i64 (a : Int) (b : Int) = ((a &&& b : Nat) : Int) := by
 have hx : a &&& b < 2 ^ 16 := Nat.and_lt_two_pow _ (by omega)
 show IntKind.i64.wrap ((BitVec.ofInt 64 (a : Int) &&& BitVec.ofInt 64 (b : Int)).toNat : Int) = _
 rw [BitVec.toNat_and, ofInt_u64 a (by omega), ofInt_u64 b (by omega)]
 exact wrap_i64_nat _ (by omega)
def fls (rs aa tc rd ra ad cd : Bool) : List (Bool × Nat) := [(rs, 32768), (aa, 1024), (tc, 512), (rd, 256), (ra, 128), (ad, 32), (cd, 16)]
def accN (n : Nat) (l : List (Bool × Nat)) : Nat := l.foldl (fun n x => if x.1 then n ||| x.2 else n) n
theorem accN_lt (l : List (Bool × Nat)) : ∀ n, n < 65536 -> (∀ x ∈ l, x.2 < 65536) -> accN n l < 65536 := by
 induction l with
 | nil => intro n h _; exact h
 | cons x r ih =>
   intro n h hx
   show accN (if x.1 then n ||| x.2 else n) r < 65536
   refine ih _ ?_ fun y hy => hx y (List.mem_cons_of_mem _ hy)
   split
   · exact Nat.or_lt_two_pow (n := 16) h (hx x List.mem_cons_self)
   · exact h
theorem fls_lt (rs aa tc rd ra ad cd : Bool) (x : Bool × Nat) (hx : x ∈ fls rs aa tc rd ra ad cd) : x.2 < 65536 := by
 simp only [fls, List.mem_cons, List.not_mem_nil, or_false] at hx
 rcases hx with rfl | rfl | rfl | rfl | rfl | rfl | rfl <;> simp
def packN (op rc : Nat) (rs aa tc rd ra ad cd : Bool) : Nat := accN (op * 2048 ||| rc) (fls rs aa tc rd ra ad cd)
theorem head_lt {op rc : Nat} (h1 : op < 16) (h2 : rc < 16) : op * 2048 ||| rc < 65536 := Nat.or_lt_two_pow (n := 16) (by omega) (by omega)
theorem packN_lt {op rc : Nat} (h1 : op < 16) (h2 : rc < 16) (rs aa tc rd ra ad cd : Bool) : packN op rc rs aa tc rd ra ad cd < 65536 :=
 accN_lt _ _ (head_lt h1 h2) (fls_lt rs aa tc rd ra ad cd)
theorem acc_take_lt {op rc : Nat} (h1 : op < 16) (h2 : rc < 16) (rs aa tc rd ra ad cd : Bool) (k : Nat) : accN (op * 2048 ||| rc) ((fls rs aa tc rd ra ad cd).take k) < 65536 :=
 accN_lt _ _ (head_lt h1 h2) fun x hx => fls_lt _ _ _ _ _ _ _ x (List.mem_of_mem_take hx)
theorem or_bit (n k : Nat) (h : n / 2 ^ k % 2 = 0) : n ||| 2 ^ k = n + 2 ^ k := by
 have hp : 0 < 2 ^ k := Nat.two_pow_pos k
 have e2 : 2 ^ (k + 1) = 2 ^ k * 2 := Nat.pow_succ ..
 have hlo : n % 2 ^ k < 2 ^ k := Nat.mod_lt _ hp
 have e0 : n = n / 2 ^ (k + 1) * 2 ^ (k + 1) + n % 2 ^ k := by
   have h1 := Nat.div_add_mod n (2 ^ k)
   have h2 : n / 2 ^ (k + 1) = n / 2 ^ k / 2 := by rw [e2, Nat.div_div_eq_div_mul]
   have h3 : n / 2 ^ k / 2 * 2 = n / 2 ^ k := by omega
   rw [h2, e2]
   have h4 : n / 2 ^ k / 2 * (2 ^ k * 2) = 2 ^ k * (n / 2 ^ k / 2 * 2) := by rw [Nat.mul_comm (2 ^ k) 2, <- Nat.mul_assoc, Nat.mul_comm]
   rw [h4, h3]
   exact h1.symm
 have hm : n / 2 ^ (k + 1) * 2 ^ (k + 1) % 2 ^ (k + 1) = 0 := Nat.mul_mod_left _ _
 have j1 : n / 2 ^ (k + 1) * 2 ^ (k + 1) ||| n % 2 ^ k = n / 2 ^ (k + 1) * 2 ^ (k + 1) + n % 2 ^ k := nat_join (k + 1) _ _ hm (by omega)
 have j2 : 2 ^ k ||| n % 2 ^ k = 2 ^ k + n % 2 ^ k := nat_join k _ _ (Nat.mod_self _) hlo
 have j3 : n / 2 ^ (k + 1) * 2 ^ (k + 1) ||| (2 ^ k + n % 2 ^ k) = n / 2 ^ (k + 1) * 2 ^ (k + 1) + (2 ^ k + n % 2 ^ k) := nat_join (k + 1) _ _ hm (by omega)
 calc n ||| 2 ^ k = (n / 2 ^ (k + 1) * 2 ^ (k + 1) ||| n % 2 ^ k) ||| 2 ^ k := by rw [j1, <- e0]
   _ = n / 2 ^ (k + 1) * 2 ^ (k + 1) ||| (2 ^ k ||| n % 2 ^ k) := by rw [Nat.or_assoc, Nat.or_comm (n % 2 ^ k)]
   _ = n / 2 ^ (k + 1) * 2 ^ (k + 1) + (2 ^ k + n % 2 ^ k) := by rw [j2, j3]
   _ = n + 2 ^ k := by omega
theorem step_bit (n k : Nat) (b : Bool) (h : n / 2 ^ k % 2 = 0) : (if b then n ||| 2 ^ k else n) = n + 2 ^ k * b.toNat := by
 cases b
 · simp
 · simp [or_bit n k h]
theorem packN_sum {op rc : Nat} (h1 : op < 16) (h2 : rc < 16) (rs aa tc rd ra ad cd : Bool) :
   packN op rc rs aa tc rd ra ad cd = op * 2048 + rc + 32768 * rs.toNat + 1024 * aa.toNat + 512 * tc.toNat + 256 * rd.toNat + 128 * ra.toNat + 32 * ad.toNat + 16 * cd.toNat := by
 have b1 := Bool.toNat_le rs; have b2 := Bool.toNat_le aa; have b3 := Bool.toNat_le tc; have b4 := Bool.toNat_le rd; have b5 := Bool.toNat_le ra; have b6 := Bool.toNat_le ad; have b7 := Bool.toNat_le cd
 have j0 : op * 2048 ||| rc = op * 2048 + rc := nat_join 11 _ _ (by omega) (by omega)
 simp only [packN, accN, fls, List.foldl_cons, List.foldl_nil, j0]
 have s1 := step_bit (op * 2048 + rc) 15 rs (by simp only [Nat.reducePow]; omega)
 simp only [Nat.reducePow] at s1
 rw [s1]
 have s2 := step_bit (op * 2048 + rc + 32768 * rs.toNat) 10 aa (by simp only [Nat.reducePow]; omega)
 simp only [Nat.reducePow] at s2
 rw [s2]
 have s3 := step_bit (op * 2048 + rc + 32768 * rs.toNat + 1024 * aa.toNat) 9 tc (by simp only [Nat.reducePow]; omega)
 simp only [Nat.reducePow] at s3
 rw [s3]
 have s4 := step_bit (op * 2048 + rc + 32768 * rs.toNat + 1024 * aa.toNat + 512 * tc.toNat) 8 rd (by simp only [Nat.reducePow]; omega)
 simp only [Nat.reducePow] at s4
 rw [s4]
 have s5 := step_bit (op * 2048 + rc + 32768 * rs.toNat + 1024 * aa.toNat + 512 * tc.toNat + 256 * rd.toNat) 7 ra (by simp only [Nat.reducePow]; omega)
 simp only [Nat.reducePow] at s5
 rw [s5]
 have s6 := step_bit (op * 2048 + rc + 32768 * rs.toNat + 1024 * aa.toNat + 512 * tc.toNat + 256 * rd.toNat + 128 * ra.toNat) 5 ad (by simp only [Nat.reducePow]; omega)
 simp only [Nat.reducePow] at s6
 rw [s6]
 have s7 := step_bit (op * 2048 + rc + 32768 * rs.toNat + 1024 * aa.toNat + 512 * tc.toNat + 256 * rd.toNat + 128 * ra.toNat + 32 * ad.toNat) 4 cd (by simp only [Nat.reducePow]; omega)
 simp only [Nat.reducePow] at s7
 rw [s7]
def unop (n : Nat) : Nat := n / 2048 % 16
def unrc (n : Nat) : Nat := n % 16
def unfl (n v : Nat) : Bool := n / v % 2 == 1
theorem unfl_of {n v : Nat} {b : Bool} (h : n / v % 2 = b.toNat) : unfl n v = b := by
 unfold unfl; rw [h]; cases b <;> rfl
theorem un_pack {op rc : Nat} (h1 : op < 16) (h2 : rc < 16) (rs aa tc rd ra ad cd : Bool) (N : Nat) (hN : N = packN op rc rs aa tc rd ra ad cd) :
   unop N = op /\ unrc N = rc /\ unfl N 64 = false /\ unfl N 32768 = rs /\ unfl N 1024 = aa /\ unfl N 512 = tc /\ unfl N 256 = rd /\ unfl N 128 = ra /\ unfl N 32 = ad /\ unfl N 16 = cd := by
 rw [packN_sum h1 h2] at hN
 have b1 := Bool.toNat_le rs; have b2 := Bool.toNat_le aa; have b3 := Bool.toNat_le tc; have b4 := Bool.toNat_le rd; have b5 := Bool.toNat_le ra; have b6 := Bool.toNat_le ad; have b7 := Bool.toNat_le cd
 refine ⟨by unfold unop; omega, by unfold unrc; omega, unfl_of (by rw [Bool.toNat_false]; omega), unfl_of (by omega), unfl_of (by omega), unfl_of (by omega), unfl_of (by omega), unfl_of (by omega), unfl_of (by omega), unfl_of (by omega)⟩
def wt (b : Bool) (n : Nat) : Nat := if b then n else 0
end Go.Proofs.YteplffhfeoephaaGreat
namespace Go.Proofs.YteplffhfeoephaaGreat
open Go.ChangeShapes Go.WideShapes Go.ChangeAt Go.RowKit
set_option maxHeartbeats 1000000 in
theorem pack_no (id : Int) (rs : Bool) (op : Int) (aa tc rd ra ad cd : Bool) (rc : Int) (a1 a2 a3 a4 : Option Addr) (n1 n2 n3 n4 c1 c2 c3 c4 : Nat) (w : World)
   (h : op < 0 ∨ (0 <= op /\ 15 < op) ∨ (0 <= op /\ op <= 15 /\ rc < 0) ∨ (0 <= op /\ op <= 15 /\ 0 <= rc /\ 15 < rc)) :
   Calls Tryz.prog 83 #[.agg #[.int .u16 id, .bool rs, .int .i64 op, .bool aa, .bool tc, .bool rd, .bool ra, .bool ad, .bool cd, .int .i64 rc, .slice a1 n1 c1, .slice a2 n2 c2, .slice a3 n3 c3, .slice a4 n4 c4]] w fun e w' => e = .returned (.tuple #[.int .i64 0, .int .i64 2]) /\ Below w.heap.size w w' := by
 rcases h with h | ⟨h0, h⟩ | ⟨h0, h1, h⟩ | ⟨h0, h1, h2, h⟩
 all_goals
   go_enter Tryz.func83, Tryz.ntmps83
   go_wp2
   go_ret2
   exact ⟨rfl, (Below.refl _ _).alloc (Nat.le_refl _) _⟩
theorem ix0 (b : Nat) (w : World) : (Instr.index 173 (.agg #[.int .i64 32768, .pointer (some ⟨b, 1, none⟩), .int .i64 1024, .pointer (some ⟨b, 3, none⟩), .int .i64 512, .pointer (some ⟨b, 4, none⟩), .int .i64 256, .pointer (some ⟨b, 5, none⟩), .int .i64 128, .pointer (some ⟨b, 6, none⟩), .int .i64 32, .pointer (some ⟨b, 7, none⟩), .int .i64 16, .pointer (some ⟨b, 8, none⟩)]) (.int .i64 0)).run Tryz.prog w = .ok (.agg #[.int .i64 32768, .pointer (some ⟨b, 1, none⟩)]) w := by kernel_rfl
theorem ix1 (b : Nat) (w : World) : (Instr.index 173 (.agg #[.int .i64 32768, .pointer (some ⟨b, 1, none⟩), .int .i64 1024, .pointer (some ⟨b, 3, none⟩), .int .i64 512, .pointer (some ⟨b, 4, none⟩), .int .i64 256, .pointer (some ⟨b, 5, none⟩), .int .i64 128, .pointer (some ⟨b, 6, none⟩), .int .i64 32, .pointer (some ⟨b, 7, none⟩), .int .i64 16, .pointer (some ⟨b, 8, none⟩)]) (.int .i64 1)).run Tryz.prog w = .ok (.agg #[.int .i64 1024, .pointer (some ⟨b, 3, none⟩)]) w := by kernel_rfl
theorem ix2 (b : Nat) (w : World) : (Instr.index 173 (.agg #[.int .i64 32768, .pointer (some ⟨b, 1, none⟩), .int .i64 1024, .pointer (some ⟨b, 3, none⟩), .int .i64 512, .pointer (some ⟨b, 4, none⟩), .int .i64 256, .pointer (some ⟨b, 5, none⟩), .int .i64 128, .pointer (some ⟨b, 6, none⟩), .int .i64 32, .pointer (some ⟨b, 7, none⟩), .int .i64 16, .pointer (some ⟨b, 8, none⟩)]) (.int .i64 2)).run Tryz.prog w = .ok (.agg #[.int .i64 512, .pointer (some ⟨b, 4, none⟩)]) w := by kernel_rfl
theorem ix3 (b : Nat) (w : World) : (Instr.index 173 (.agg #[.int .i64 32768, .pointer (some ⟨b, 1, none⟩), .int .i64 1024, .pointer (some ⟨b, 3, none⟩), .int .i64 512, .pointer (some ⟨b, 4, none⟩), .int .i64 256, .pointer (some ⟨b, 5, none⟩), .int .i64 128, .pointer (some ⟨b, 6, none⟩), .int .i64 32, .pointer (some ⟨b, 7, none⟩), .int .i64 16, .pointer (some ⟨b, 8, none⟩)]) (.int .i64 3)).run Tryz.prog w = .ok (.agg #[.int .i64 256, .pointer (some ⟨b, 5, none⟩)]) w := by kernel_rfl
theorem ix4 (b : Nat) (w : World) : (Instr.index 173 (.agg #[.int .i64 32768, .pointer (some ⟨b, 1, none⟩), .int .i64 1024, .pointer (some ⟨b, 3, none⟩), .int .i64 512, .pointer (some ⟨b, 4, none⟩), .int .i64 256, .pointer (some ⟨b, 5, none⟩), .int .i64 128, .pointer (some ⟨b, 6, none⟩), .int .i64 32, .pointer (some ⟨b, 7, none⟩), .int .i64 16, .pointer (some ⟨b, 8, none⟩)]) (.int .i64 4)).run Tryz.prog w = .ok (.agg #[.int .i64 128, .pointer (some ⟨b, 6, none⟩)]) w := by kernel_rfl
theorem ix5 (b : Nat) (w : World) : (Instr.index 173 (.agg #[.int .i64 32768, .pointer (some ⟨b, 1, none⟩), .int .i64 1024, .pointer (some ⟨b, 3, none⟩), .int .i64 512, .pointer (some ⟨b, 4, none⟩), .int .i64 256, .pointer (some ⟨b, 5, none⟩), .int .i64 128, .pointer (some ⟨b, 6, none⟩), .int .i64 32, .pointer (some ⟨b, 7, none⟩), .int .i64 16, .pointer (some ⟨b, 8, none⟩)]) (.int .i64 5)).run Tryz.prog w = .ok (.agg #[.int .i64 32, .pointer (some ⟨b, 7, none⟩)]) w := by kernel_rfl
theorem ix6 (b : Nat) (w : World) : (Instr.index 173 (.agg #[.int .i64 32768, .pointer (some ⟨b, 1, none⟩), .int .i64 1024, .pointer (some ⟨b, 3, none⟩), .int .i64 512, .pointer (some ⟨b, 4, none⟩), .int .i64 256, .pointer (some ⟨b, 5, none⟩), .int .i64 128, .pointer (some ⟨b, 6, none⟩), .int .i64 32, .pointer (some ⟨b, 7, none⟩), .int .i64 16, .pointer (some ⟨b, 8, none⟩)]) (.int .i64 6)).run Tryz.prog w = .ok (.agg #[.int .i64 16, .pointer (some ⟨b, 8, none⟩)]) w := by kernel_rfl
def MBox (w : World) (b : Nat) (id : Value) (rs : Bool) (op : Value) (aa tc rd ra ad cd : Bool) : Prop :=
 b < w.heap.size /\ w.cell? ⟨b, 1, none⟩ = some (.bool rs) /\ w.cell? ⟨b, 3, none⟩ = some (.bool aa) /\ w.cell? ⟨b, 4, none⟩ = some (.bool tc) /\ w.cell? ⟨b, 5, none⟩ = some (.bool rd) /\ w.cell? ⟨b, 6, none⟩ = some (.bool ra) /\ w.cell? ⟨b, 7, none⟩ = some (.bool ad) /\ w.cell? ⟨b, 8, none⟩ = some (.bool cd)
theorem MBox.below {w w' : World} {b : Nat} {id : Value} {rs : Bool} {op : Value} {aa tc rd ra ad cd : Bool} (h : MBox w b id rs op aa tc rd ra ad cd) (hb : Below w.heap.size w w') : MBox w' b id rs op aa tc rd ra ad cd := by
 obtain ⟨h0, h1, h2, h3, h4, h5, h6, h7⟩ := h
 exact ⟨Nat.lt_of_lt_of_le h0 hb.size, (hb.cell (p := ⟨b, 1, none⟩) h0).trans h1, (hb.cell (p := ⟨b, 3, none⟩) h0).trans h2, (hb.cell (p := ⟨b, 4, none⟩) h0).trans h3, (hb.cell (p := ⟨b, 5, none⟩) h0).trans h4, (hb.cell (p := ⟨b, 6, none⟩) h0).trans h5, (hb.cell (p := ⟨b, 7, none⟩) h0).trans h6, (hb.cell (p := ⟨b, 8, none⟩) h0).trans h7⟩
set_option maxHeartbeats 1000000 in
theorem pack_ok (id : Int) (rs : Bool) (op : Nat) (aa tc rd ra ad cd : Bool) (rc : Nat) (a1 a2 a3 a4 : Option Addr) (n1 n2 n3 n4 c1 c2 c3 c4 : Nat) (w : World)
   (ho : op < 16) (hr : rc < 16) :
   Calls Tryz.prog 83 #[.agg #[.int .u16 id, .bool rs, .int .i64 (op : Int), .bool aa, .bool tc, .bool rd, .bool ra, .bool ad, .bool cd, .int .i64 (rc : Int), .slice a1 n1 c1, .slice a2 n2 c2, .slice a3 n3 c3, .slice a4 n4 c4]] w fun e w' => e = .returned (.tuple #[.int .i64 (packN op rc rs aa tc rd ra ad cd : Nat), .int .i64 0]) /\ Below w.heap.size w w' := by
 have h1 : ¬ (op : Int) < 0 := by omega
 have h2 : (op : Int) <= 15 := by omega
 have h3 : ¬ (rc : Int) < 0 := by omega
 have h4 : (rc : Int) <= 15 := by omega
 have HT : ∀ k, Hid (accN (op * 2048 ||| rc) ((fls rs aa tc rd ra ad cd).take k) < 65536) := fun k => acc_take_lt ho hr rs aa tc rd ra ad cd k
 have HP : Hid (packN op rc rs aa tc rd ra ad cd = accN (op * 2048 ||| rc) (fls rs aa tc rd ra ad cd)) := rfl
 obtain ⟨N0, hN0⟩ : ∃ N0, N0 = op * 2048 ||| rc := ⟨_, rfl⟩
 have h5 : bits .or .i64 ((op : Int) * 2048) (rc : Int) = (N0 : Int) := by
   have := i64_or_nat (op * 2048) rc (by omega) (by omega)
   rw [hN0]; simpa using this
 have HT' : ∀ k, Hid (accN N0 ((fls rs aa tc rd ra ad cd).take k) < 65536) := by rw [hN0]; exact HT
 have HP' : Hid (packN op rc rs aa tc rd ra ad cd = accN N0 (fls rs aa tc rd ra ad cd)) := by rw [hN0]; exact HP
 clear HT HP hN0
 generalize packN op rc rs aa tc rd ra ad cd = P at *
 go_enter Tryz.func83, Tryz.ntmps83
 go_wp2_with fail
 refine (flags40 _ _).mono ?_
 rintro e w1 ⟨rfl, hb1⟩
 have HM : Hid (MBox w1 w.heap.size (.int .u16 id) rs (.int .i64 op) aa tc rd ra ad cd) := by
   refine MBox.below ?_ hb1
   simp [MBox]
 have HB : Hid (Below w.heap.size w w1) := (((Below.refl _ _).alloc (Nat.le_refl _) _).trans (hb1.mono (by simp)))
 clear hb1
 go_wp2_with fail
 go_loopw [4, 32] (fun y x wr => ∃ k : Nat, k <= 7 /\ x = .int .i64 (k : Int) /\ y = .int .i64 (accN N0 ((fls rs aa tc rd ra ad cd).take k) : Nat) /\ Hid (Below w1.heap.size w1 wr)) (fun _ x _ => 7 - (intOf x).toNat)
 case atStart => exact ⟨0, by omega, rfl, rfl, Below.refl _ _⟩
 case round =>
   obtain ⟨k, hk, rfl, rfl, HW⟩ := hrel
   have HM' := HM.out.below HW.out
   obtain ⟨m0, m1, m2, m3, m4, m5, m6, m7⟩ := HM'
   by_cases hlt : k < 7
   · have hlt' : (k : Int) < 7 := by omega
     have hstep : ∀ (x : Bool) (v : Nat), (fls rs aa tc rd ra ad cd)[k]? = some (x, v) -> Hid (v < 65536 -> (x = true -> bits .or .i64 (accN N0 ((fls rs aa tc rd ra ad cd).take k) : Nat) (v : Int) = (accN N0 ((fls rs aa tc rd ra ad cd).take (k + 1)) : Nat)) /\ (x = false -> accN N0 ((fls rs aa tc rd ra ad cd).take (k + 1)) = accN N0 ((fls rs aa tc rd ra ad cd).take k))) := by
       intro x v e hv
       have e2 : (fls rs aa tc rd ra ad cd).take (k + 1) = (fls rs aa tc rd ra ad cd).take k ++ [(x, v)] := by rw [List.take_add_one, e]; rfl
       constructor
       · intro ex
         rw [i64_or_nat _ _ (HT' k).out hv, e2]
         simp [accN, ex]
       · intro ex
         rw [e2]
         simp [accN, ex]
     rcases Nat.lt_or_ge k 1 with hk' | hk'
     · obtain rfl : k = 0 := by omega
       have HS := hstep rs 32768 rfl
       have ix := ix0 w.heap.size
       clear hstep
       generalize accN N0 ((fls rs aa tc rd ra ad cd).take 0) = A at *
       obtain ⟨A', hA'⟩ : ∃ A', A' = accN N0 ((fls rs aa tc rd ra ad cd).take (0 + 1)) := ⟨_, rfl⟩
       rw [<- hA'] at HS
       have HA' : Hid (A' = accN N0 ((fls rs aa tc rd ra ad cd).take (0 + 1))) := hA'
       clear hA'
       obtain ⟨xx, hxx⟩ : ∃ xx, xx = rs := ⟨_, rfl⟩
       rw [<- hxx] at m1 HS
       have HX : Hid (xx = rs) := hxx
       clear hxx
       cases xx
       · have hA : Hid (A' = A) := (HS.out (by omega)).2 rfl
         go_wp2
         go_round
         case rel => exact ⟨0 + 1, by omega, by go_num, by rw [<- HA'.out, hA.out], (HW.out.alloc HW.out.size _)⟩
         case measure => simp [intOf]
       · have hA : bits .or .i64 (A : Int) 32768 = (A' : Int) := (HS.out (by omega)).1 rfl
         go_wp2
         go_round
         case rel => exact ⟨0 + 1, by omega, by go_num, by rw [<- HA'.out], (HW.out.alloc HW.out.size _)⟩
         case measure => simp [intOf]
     rcases Nat.lt_or_ge k 2 with hk' | hk'
     · obtain rfl : k = 1 := by omega
       have HS := hstep aa 1024 rfl
       have ix := ix1 w.heap.size
       clear hstep
       generalize accN N0 ((fls rs aa tc rd ra ad cd).take 1) = A at *
       obtain ⟨A', hA'⟩ : ∃ A', A' = accN N0 ((fls rs aa tc rd ra ad cd).take (1 + 1)) := ⟨_, rfl⟩
       rw [<- hA'] at HS
       have HA' : Hid (A' = accN N0 ((fls rs aa tc rd ra ad cd).take (1 + 1))) := hA'
       clear hA'
       obtain ⟨xx, hxx⟩ : ∃ xx, xx = aa := ⟨_, rfl⟩
       rw [<- hxx] at m2 HS
       have HX : Hid (xx = aa) := hxx
       clear hxx
       cases xx
       · have hA : Hid (A' = A) := (HS.out (by omega)).2 rfl
         go_wp2
         go_round
         case rel => exact ⟨1 + 1, by omega, by go_num, by rw [<- HA'.out, hA.out], (HW.out.alloc HW.out.size _)⟩
         case measure => simp [intOf]
       · have hA : bits .or .i64 (A : Int) 1024 = (A' : Int) := (HS.out (by omega)).1 rfl
         go_wp2
         go_round
         case rel => exact ⟨1 + 1, by omega, by go_num, by rw [<- HA'.out], (HW.out.alloc HW.out.size _)⟩
         case measure => simp [intOf]
     rcases Nat.lt_or_ge k 3 with hk' | hk'
     · obtain rfl : k = 2 := by omega
       have HS := hstep tc 512 rfl
       have ix := ix2 w.heap.size
       clear hstep
       generalize accN N0 ((fls rs aa tc rd ra ad cd).take 2) = A at *
       obtain ⟨A', hA'⟩ : ∃ A', A' = accN N0 ((fls rs aa tc rd ra ad cd).take (2 + 1)) := ⟨_, rfl⟩
       rw [<- hA'] at HS
       have HA' : Hid (A' = accN N0 ((fls rs aa tc rd ra ad cd).take (2 + 1))) := hA'
       clear hA'
       obtain ⟨xx, hxx⟩ : ∃ xx, xx = tc := ⟨_, rfl⟩
       rw [<- hxx] at m3 HS
       have HX : Hid (xx = tc) := hxx
       clear hxx
       cases xx
       · have hA : Hid (A' = A) := (HS.out (by omega)).2 rfl
         go_wp2
         go_round
         case rel => exact ⟨2 + 1, by omega, by go_num, by rw [<- HA'.out, hA.out], (HW.out.alloc HW.out.size _)⟩
         case measure => simp [intOf]
       · have hA : bits .or .i64 (A : Int) 512 = (A' : Int) := (HS.out (by omega)).1 rfl
         go_wp2
         go_round
         case rel => exact ⟨2 + 1, by omega, by go_num, by rw [<- HA'.out], (HW.out.alloc HW.out.size _)⟩
         case measure => simp [intOf]
     rcases Nat.lt_or_ge k 4 with hk' | hk'
     · obtain rfl : k = 3 := by omega
       have HS := hstep rd 256 rfl
       have ix := ix3 w.heap.size
       clear hstep
       generalize accN N0 ((fls rs aa tc rd ra ad cd).take 3) = A at *
       obtain ⟨A', hA'⟩ : ∃ A', A' = accN N0 ((fls rs aa tc rd ra ad cd).take (3 + 1)) := ⟨_, rfl⟩
       rw [<- hA'] at HS
       have HA' : Hid (A' = accN N0 ((fls rs aa tc rd ra ad cd).take (3 + 1))) := hA'
       clear hA'
       obtain ⟨xx, hxx⟩ : ∃ xx, xx = rd := ⟨_, rfl⟩
       rw [<- hxx] at m4 HS
       have HX : Hid (xx = rd) := hxx
       clear hxx
       cases xx
       · have hA : Hid (A' = A) := (HS.out (by omega)).2 rfl
         go_wp2
         go_round
         case rel => exact ⟨3 + 1, by omega, by go_num, by rw [<- HA'.out, hA.out], (HW.out.alloc HW.out.size _)⟩
         case measure => simp [intOf]
       · have hA : bits .or .i64 (A : Int) 256 = (A' : Int) := (HS.out (by omega)).1 rfl
         go_wp2
         go_round
         case rel => exact ⟨3 + 1, by omega, by go_num, by rw [<- HA'.out], (HW.out.alloc HW.out.size _)⟩
         case measure => simp [intOf]
     rcases Nat.lt_or_ge k 5 with hk' | hk'
     · obtain rfl : k = 4 := by omega
       have HS := hstep ra 128 rfl
       have ix := ix4 w.heap.size
       clear hstep
       generalize accN N0 ((fls rs aa tc rd ra ad cd).take 4) = A at *
       obtain ⟨A', hA'⟩ : ∃ A', A' = accN N0 ((fls rs aa tc rd ra ad cd).take (4 + 1)) := ⟨_, rfl⟩
       rw [<- hA'] at HS
       have HA' : Hid (A' = accN N0 ((fls rs aa tc rd ra ad cd).take (4 + 1))) := hA'
       clear hA'
       obtain ⟨xx, hxx⟩ : ∃ xx, xx = ra := ⟨_, rfl⟩
       rw [<- hxx] at m5 HS
       have HX : Hid (xx = ra) := hxx
       clear hxx
       cases xx
       · have hA : Hid (A' = A) := (HS.out (by omega)).2 rfl
         go_wp2
         go_round
         case rel => exact ⟨4 + 1, by omega, by go_num, by rw [<- HA'.out, hA.out], (HW.out.alloc HW.out.size _)⟩
         case measure => simp [intOf]
       · have hA : bits .or .i64 (A : Int) 128 = (A' : Int) := (HS.out (by omega)).1 rfl
         go_wp2
         go_round
         case rel => exact ⟨4 + 1, by omega, by go_num, by rw [<- HA'.out], (HW.out.alloc HW.out.size _)⟩
         case measure => simp [intOf]
     rcases Nat.lt_or_ge k 6 with hk' | hk'
     · obtain rfl : k = 5 := by omega
       have HS := hstep ad 32 rfl
       have ix := ix5 w.heap.size
       clear hstep
       generalize accN N0 ((fls rs aa tc rd ra ad cd).take 5) = A at *
       obtain ⟨A', hA'⟩ : ∃ A', A' = accN N0 ((fls rs aa tc rd ra ad cd).take (5 + 1)) := ⟨_, rfl⟩
       rw [<- hA'] at HS
       have HA' : Hid (A' = accN N0 ((fls rs aa tc rd ra ad cd).take (5 + 1))) := hA'
       clear hA'
       obtain ⟨xx, hxx⟩ : ∃ xx, xx = ad := ⟨_, rfl⟩
       rw [<- hxx] at m6 HS
       have HX : Hid (xx = ad) := hxx
       clear hxx
       cases xx
       · have hA : Hid (A' = A) := (HS.out (by omega)).2 rfl
         go_wp2
         go_round
         case rel => exact ⟨5 + 1, by omega, by go_num, by rw [<- HA'.out, hA.out], (HW.out.alloc HW.out.size _)⟩
         case measure => simp [intOf]
       · have hA : bits .or .i64 (A : Int) 32 = (A' : Int) := (HS.out (by omega)).1 rfl
         go_wp2
         go_round
         case rel => exact ⟨5 + 1, by omega, by go_num, by rw [<- HA'.out], (HW.out.alloc HW.out.size _)⟩
         case measure => simp [intOf]
     rcases Nat.lt_or_ge k 7 with hk' | hk'
     · obtain rfl : k = 6 := by omega
       have HS := hstep cd 16 rfl
       have ix := ix6 w.heap.size
       clear hstep
       generalize accN N0 ((fls rs aa tc rd ra ad cd).take 6) = A at *
       obtain ⟨A', hA'⟩ : ∃ A', A' = accN N0 ((fls rs aa tc rd ra ad cd).take (6 + 1)) := ⟨_, rfl⟩
       rw [<- hA'] at HS
       have HA' : Hid (A' = accN N0 ((fls rs aa tc rd ra ad cd).take (6 + 1))) := hA'
       clear hA'
       obtain ⟨xx, hxx⟩ : ∃ xx, xx = cd := ⟨_, rfl⟩
       rw [<- hxx] at m7 HS
       have HX : Hid (xx = cd) := hxx
       clear hxx
       cases xx
       · have hA : Hid (A' = A) := (HS.out (by omega)).2 rfl
         go_wp2
         go_round
         case rel => exact ⟨6 + 1, by omega, by go_num, by rw [<- HA'.out, hA.out], (HW.out.alloc HW.out.size _)⟩
         case measure => simp [intOf]
       · have hA : bits .or .i64 (A : Int) 16 = (A' : Int) := (HS.out (by omega)).1 rfl
         go_wp2
         go_round
         case rel => exact ⟨6 + 1, by omega, by go_num, by rw [<- HA'.out], (HW.out.alloc HW.out.size _)⟩
         case measure => simp [intOf]
     · omega
   · obtain rfl : k = 7 := by omega
     go_wp2
     go_ret2
     refine ⟨?_, HB.out.trans (HW.out.mono HB.out.size)⟩
     rw [HP'.out]
     rfl
end Go.Proofs.YteplffhfeoephaaGreat
