/- PaperKnown: its walk. -/
import Derived.Test.YtoppdmlmhigogaaDoorWtd
import Derived.Laws.MakeOwn
namespace Go.Proofs.YtoppdmlmhigogaaDoor
open Go.ChangeShapes Go.WideShapes Go.ChangeAt Go.RowKit
set_option linter.unusedVariables false
set_option linter.unusedSimpArgs false
set_option maxRecDepth 100000

theorem infR : (Tryd.prog.info? 37).map (fun i => (i.zero, i.size, i.bytes)) = some (some (.agg #[.slice none 0 0, .int .u16 0, .int .u16 0, .int .u32 0, .slice none 0 0, .slice none 0 0, .slice none 0 0, .slice none 0 0]), 8, 128) := by kernel_rfl
theorem wpList_make_recs (w : World) {ops : Array Oper} {rest : List Oper} {o : Oper} {a : Act} {Q : Exit → Act → World → Prop} (hgd : o.guard = none) (s x : Operand)
    (ho : o.op = .makeSlice 38 s x) (L : Int) (hs : a.eval s = .int .i64 L) (hx : a.eval x = .int .i64 L) (hL : L = 2049)
    (h : ∀ W, Hid (Below w.heap.size w W) → wpList Tryd.prog ops Q rest (a.put o.dst (.slice (some ⟨w.heap.size, 0, none⟩) 2049 2049)) W) : wpList Tryd.prog ops Q (o :: rest) a w := by
  subst hL
  refine wpList_plain hgd fun K hK => ?_
  obtain ⟨i, h1, h2⟩ := Option.map_eq_some_iff.1 infR
  simp only [Prod.mk.injEq] at h2
  obtain ⟨hz0, hz1, hz2⟩ := h2
  have hrun := run_make (P := Tryd.prog) w 38 37 i _ Tryd.underlying38 h1 hz0 .i64 .i64 2049 2049 (by omega) (by omega) (by rw [hz2]; omega) (by omega)
  rw [hz1] at hrun
  unfold Oper.wp
  simp only [execOp, ho, hs, hx, Sem.run_bind, hrun, Result.andThen]
  exact hK _ _ (h _ (new_below _ _))
theorem infB : (Tryd.prog.info? 5).map (fun i => (i.zero, i.size, i.bytes)) = some (some (.int .u8 0), 1, 1) := by kernel_rfl
theorem made4 : madeCells (Value.int .u8 0).cells 4 = #[.int .u8 0, .int .u8 0, .int .u8 0, .int .u8 0] := by kernel_rfl
theorem wpList_make_four (w : World) {ops : Array Oper} {rest : List Oper} {o : Oper} {a : Act} {Q : Exit → Act → World → Prop} (hgd : o.guard = none) (s x : Operand)
    (ho : o.op = .makeSlice 33 s x) (L : Int) (hs : a.eval s = .int .i64 L) (hx : a.eval x = .int .i64 L) (hL : L = 4)
    (h : wpList Tryd.prog ops Q rest (a.put o.dst (.slice (some ⟨w.heap.size, 0, none⟩) 4 4)) (w.alloc (.cells #[.int .u8 0, .int .u8 0, .int .u8 0, .int .u8 0] 5))) : wpList Tryd.prog ops Q (o :: rest) a w := by
  subst hL
  refine wpList_plain hgd fun K hK => ?_
  obtain ⟨i, h1, h2⟩ := Option.map_eq_some_iff.1 infB
  simp only [Prod.mk.injEq] at h2
  obtain ⟨hz0, hz1, hz2⟩ := h2
  have hrun := run_make (P := Tryd.prog) w 33 5 i _ Tryd.underlying33 h1 hz0 .i64 .i64 4 4 (by omega) (by omega) (by rw [hz2]; omega) (by omega)
  rw [hz1, show (4 : Int).toNat * 1 = 4 from rfl, made4] at hrun
  unfold Oper.wp
  simp only [execOp, ho, hs, hx, Sem.run_bind, hrun, Result.andThen]
  exact hK _ _ h
set_option maxHeartbeats 2000000 in
/-- Too many records. -/
theorem text7_big (a : Option Addr) (n c : Nat) (w : World) (hn : 2048 < n) (h63 : n ≤ 9223372036854775807) :
    Calls Tryd.prog 7 #[.slice none 0 0, .slice a n c] w fun e w' => e = .returned (.tuple #[.string ⟨#[]⟩, .int .i64 3]) ∧ Hid (Below w.heap.size w w') := by
  have KN := Lib.hid (wcheck 0 (show Nw w none 0 [] from ⟨.inl rfl, rfl, by omega, by simp⟩))
  rw [show nck [] = 0 from by decide] at KN
  have hn' : (2048 : Int) < (n : Int) := by omega
  go_enter Tryd.func7, Tryd.ntmps7
  go_wp2_with fail
  refine KN.out.mono ?_
  rintro e w1 ⟨rfl, rfl⟩
  go_wp2_with fail
  go_ret2
  exact ⟨rfl, Below.refl _ _⟩
theorem lit_ok (l : List ByteArray) (h : l.all fun s => decide (s.size ≤ 100)) : ∀ x ∈ l, x.size ≤ 9223372036854775807 := fun x hx => by
  have := of_decide_eq_true (List.all_eq_true.1 h x hx)
  omega
theorem short_two (w : World) (n og : List ByteArray) (a b : Nat) (s : ByteArray) (h1 : n.length = a) (h2 : og.length = b) (ha : a ≤ 100) (hb : b ≤ 100) (k1 : n.all fun s => decide (s.size ≤ 100)) (k2 : og.all fun s => decide (s.size ≤ 100)) (hs : shortF n og = (s, 0)) :
    Calls Tryd.prog 6 #[.slice (some ⟨w.heap.size, 0, none⟩) a a, .slice (some ⟨w.heap.size + 1, 0, none⟩) b b] ((w.alloc (.cells (tv n).toArray 9)).alloc (.cells (tv og).toArray 9)) fun e w' => e = .returned (.tuple #[.string s, .int .i64 0]) ∧ Hid (Below w.heap.size w w') := by
  have t1 := new_t w n a h1 (by omega) (lit_ok n k1)
  have b1 := new_below w (.cells (tv n).toArray 9)
  have t2 := new_t (w.alloc (.cells (tv n).toArray 9)) og b h2 (by omega) (lit_ok og k2)
  have b2 := new_below (w.alloc (.cells (tv n).toArray 9)) (.cells (tv og).toArray 9)
  rw [World.size_alloc] at t2
  have h := short11_any _ _ n og _ (t1.below b2) t2 (by show a ≤ 1000; omega) (by show b ≤ 1000; omega)
  rw [hs] at h
  refine h.mono fun e w' q => ⟨q.1, ?_⟩
  have b3 := b1.trans (b2.mono b1.size)
  exact b3.trans (q.2.out.mono b3.size)
theorem short_one (w : World) (n : List ByteArray) (a : Nat) (s : ByteArray) (h1 : n.length = a) (ha : a ≤ 100) (k1 : n.all fun s => decide (s.size ≤ 100)) (hs : shortF n [] = (s, 0)) :
    Calls Tryd.prog 6 #[.slice (some ⟨w.heap.size, 0, none⟩) a a, .slice none 0 0] (w.alloc (.cells (tv n).toArray 9)) fun e w' => e = .returned (.tuple #[.string s, .int .i64 0]) ∧ Hid (Below w.heap.size w w') := by
  have t1 := new_t w n a h1 (by omega) (lit_ok n k1)
  have b1 := new_below w (.cells (tv n).toArray 9)
  have h := short11_any _ ⟨none, 0, 0⟩ n [] _ t1 (trd_none _) (by show a ≤ 1000; omega) (by show 0 ≤ 1000; omega)
  rw [hs] at h
  exact h.mono fun e w' q => ⟨q.1, b1.trans (q.2.out.mono b1.size)⟩
theorem short_none (w : World) : Calls Tryd.prog 6 #[.slice none 0 0, .slice none 0 0] w fun e w' => e = .returned (.tuple #[.string ⟨#[64]⟩, .int .i64 0]) ∧ Hid (Below w.heap.size w w') := by
  have h := short11_any ⟨none, 0, 0⟩ ⟨none, 0, 0⟩ [] [] w (trd_none _) (trd_none _) (by show 0 ≤ 1000; omega) (by show 0 ≤ 1000; omega)
  rw [show shortF [] [] = (⟨#[64]⟩, 0) from by kernel_rfl] at h
  exact h
theorem bd_lit {d : Dat} (h1 : d.ns = []) (h2 : d.us = []) (h3 : d.ts = []) (h4 : d.raw.length ≤ 1000) (h5 : tsum d ≤ 1000000000000) : Bd d := ⟨by rw [h1]; simp, by rw [h1]; simp, by rw [h2]; simp, h5, by omega⟩
theorem line_lit (x : RA) (r : Rec) (w : World) (l : List UInt8) (q : Int) (h : RRd w x r) (hn : x.o.n ≤ 1000) (hB : Bd r.d) (hL : LayT w) (ht : r.t < 65536) (hcl : r.cl < 65536) (htt : r.tt < 4294967296) (hwl : (wordsR r.t r.d).length ≤ 100000) (hz : (lineP r).length ≤ 140737488355328) (he : lineF r = (l, q)) :
    Calls Tryd.prog 4 #[.agg (recCells x r).toArray] w fun e w' => e = .returned (.tuple #[.string ⟨l.toArray⟩, .int .i64 q]) ∧ Hid (Below w.heap.size w w') := by
  have h2 := line13_any x r w h hn hB hL ht hcl htt hwl hz
  rw [he] at h2
  exact h2
theorem ex_lineF : lineF exA = ([97, 46, 98, 46, 32, 54, 48, 32, 73, 78, 32, 65, 32, 49, 46, 50, 46, 51, 46, 52, 10], 0) := by kernel_rfl
def exO : Rec := ⟨[], 41, 0, 0, ⟨[], [], [], []⟩⟩
def exB : Rec := ⟨[], 1, 0, 2147483648, ⟨[], [], [], [0, 0, 0, 0]⟩⟩
def exZ : Rec := ⟨[], 1, 255, 0, ⟨[], [], [], [0, 0, 0, 0]⟩⟩
theorem ex_lineO : lineF exO = ([], 6) := by kernel_rfl
theorem ex_lineB : lineF exB = ([], 2) := by kernel_rfl
theorem ex_lineZ : lineF exZ = ([46, 32, 48, 32, 67, 76, 65, 83, 83, 50, 53, 53, 32, 65, 32, 48, 46, 48, 46, 48, 46, 48, 10], 0) := by kernel_rfl
theorem raw4 (w : World) : BRd (w.alloc (.cells #[.int .u8 0, .int .u8 0, .int .u8 0, .int .u8 0] 5)) ⟨some ⟨w.heap.size, 0, none⟩, 4, 4⟩ [0, 0, 0, 0] := new_b w [0, 0, 0, 0] 4 rfl (by omega) (by simp)
set_option maxHeartbeats 16000000 in
theorem knownL (w : World) (hL : LayT w) : Calls Tryd.prog 3 #[] w fun e w' => e = .returned (.bool true) ∧ Hid (Below w.heap.size w w') := by
  have HL : Hid (∀ W, Below w.heap.size w W → LayT W) := fun W hW => hL.below hW
  clear hL
  have K1 : Hid (∀ W x, Below w.heap.size w W → RRd W x exA → x.o.n ≤ 1000 → Calls Tryd.prog 4 #[.agg (recCells x exA).toArray] W fun e w' => e = .returned (.tuple #[.string ⟨#[97, 46, 98, 46, 32, 54, 48, 32, 73, 78, 32, 65, 32, 49, 46, 50, 46, 51, 46, 52, 10]⟩, .int .i64 0]) ∧ Hid (Below W.heap.size W w')) := fun W x hW hx hn => line_lit x exA W _ _ hx hn (bd_lit rfl rfl rfl (by decide) (by decide +kernel)) (HL.out W hW) (by decide) (by decide) (by decide) (by decide +kernel) (by decide +kernel) ex_lineF
  have K2 : Hid (∀ W : World, Calls Tryd.prog 6 #[.slice (some ⟨W.heap.size, 0, none⟩) 2 2, .slice (some ⟨W.heap.size + 1, 0, none⟩) 1 1] ((W.alloc (.cells #[.string ⟨#[97]⟩, .string ⟨#[98]⟩] 9)).alloc (.cells #[.string ⟨#[98]⟩] 9)) fun e w' => e = .returned (.tuple #[.string ⟨#[97]⟩, .int .i64 0]) ∧ Hid (Below W.heap.size W w')) := fun W => short_two W [lA, lB] [lB] 2 1 _ rfl rfl (by omega) (by omega) (by decide) (by decide) (by kernel_rfl)
  have K3 : Hid (∀ W : World, Calls Tryd.prog 6 #[.slice (some ⟨W.heap.size, 0, none⟩) 1 1, .slice (some ⟨W.heap.size + 1, 0, none⟩) 1 1] ((W.alloc (.cells #[.string ⟨#[98]⟩] 9)).alloc (.cells #[.string ⟨#[98]⟩] 9)) fun e w' => e = .returned (.tuple #[.string ⟨#[64]⟩, .int .i64 0]) ∧ Hid (Below W.heap.size W w')) := fun W => short_two W [lB] [lB] 1 1 _ rfl rfl (by omega) (by omega) (by decide) (by decide) (by kernel_rfl)
  have K4 : Hid (∀ W : World, Calls Tryd.prog 6 #[.slice (some ⟨W.heap.size, 0, none⟩) 2 2, .slice (some ⟨W.heap.size + 1, 0, none⟩) 1 1] ((W.alloc (.cells #[.string ⟨#[97]⟩, .string ⟨#[66]⟩] 9)).alloc (.cells #[.string ⟨#[98]⟩] 9)) fun e w' => e = .returned (.tuple #[.string ⟨#[97, 46, 66, 46]⟩, .int .i64 0]) ∧ Hid (Below W.heap.size W w')) := fun W => short_two W [lA, ⟨#[66]⟩] [lB] 2 1 _ rfl rfl (by omega) (by omega) (by decide) (by decide) (by kernel_rfl)
  have K5 : Hid (∀ W : World, Calls Tryd.prog 6 #[.slice (some ⟨W.heap.size, 0, none⟩) 1 1, .slice none 0 0] (W.alloc (.cells #[.string ⟨#[97]⟩] 9)) fun e w' => e = .returned (.tuple #[.string ⟨#[97, 46]⟩, .int .i64 0]) ∧ Hid (Below W.heap.size W w')) := fun W => short_one W [lA] 1 _ rfl (by omega) (by decide) (by kernel_rfl)
  have K6 := Lib.hid short_none
  have K7 : Hid (∀ W : World, Below w.heap.size w W → Calls Tryd.prog 4 #[.agg #[.slice none 0 0, .int .u16 41, .int .u16 0, .int .u32 0, .slice none 0 0, .slice none 0 0, .slice none 0 0, .slice none 0 0]] W fun e w' => e = .returned (.tuple #[.string ⟨#[]⟩, .int .i64 6]) ∧ Hid (Below W.heap.size W w')) := fun W hW => line_lit noA exO W _ _ (rrd_raw (trd_none W) (brd_none W)) (by show 0 ≤ 1000; omega) (bd_lit rfl rfl rfl (by decide) (by decide +kernel)) (HL.out W hW) (by decide) (by decide) (by decide) (by decide +kernel) (by decide +kernel) ex_lineO
  have K8 : Hid (∀ W : World, Below w.heap.size w W → Calls Tryd.prog 4 #[.agg #[.slice none 0 0, .int .u16 1, .int .u16 0, .int .u32 2147483648, .slice none 0 0, .slice none 0 0, .slice none 0 0, .slice (some ⟨W.heap.size, 0, none⟩) 4 4]] (W.alloc (.cells #[.int .u8 0, .int .u8 0, .int .u8 0, .int .u8 0] 5)) fun e w' => e = .returned (.tuple #[.string ⟨#[]⟩, .int .i64 2]) ∧ Hid (Below W.heap.size W w')) := fun W hW => (line_lit ⟨⟨none, 0, 0⟩, ⟨⟨none, 0, 0⟩, ⟨none, 0, 0⟩, ⟨none, 0, 0⟩, ⟨some ⟨W.heap.size, 0, none⟩, 4, 4⟩⟩⟩ exB _ _ _ (rrd_raw (trd_none _) (raw4 W)) (by show 0 ≤ 1000; omega) (bd_lit rfl rfl rfl (by decide) (by decide +kernel)) (HL.out _ (hW.trans ((new_below _ _).mono hW.size))) (by decide) (by decide) (by decide) (by decide +kernel) (by decide +kernel) ex_lineB).mono fun e w' q => ⟨q.1, (new_below W _).trans (q.2.out.mono (new_below W _).size)⟩
  have K9 : Hid (∀ W : World, Below w.heap.size w W → Calls Tryd.prog 4 #[.agg #[.slice none 0 0, .int .u16 1, .int .u16 255, .int .u32 0, .slice none 0 0, .slice none 0 0, .slice none 0 0, .slice (some ⟨W.heap.size, 0, none⟩) 4 4]] (W.alloc (.cells #[.int .u8 0, .int .u8 0, .int .u8 0, .int .u8 0] 5)) fun e w' => e = .returned (.tuple #[.string ⟨#[46, 32, 48, 32, 67, 76, 65, 83, 83, 50, 53, 53, 32, 65, 32, 48, 46, 48, 46, 48, 46, 48, 10]⟩, .int .i64 0]) ∧ Hid (Below W.heap.size W w')) := fun W hW => (line_lit ⟨⟨none, 0, 0⟩, ⟨⟨none, 0, 0⟩, ⟨none, 0, 0⟩, ⟨none, 0, 0⟩, ⟨some ⟨W.heap.size, 0, none⟩, 4, 4⟩⟩⟩ exZ _ _ _ (rrd_raw (trd_none _) (raw4 W)) (by show 0 ≤ 1000; omega) (bd_lit rfl rfl rfl (by decide) (by decide +kernel)) (HL.out _ (hW.trans ((new_below _ _).mono hW.size))) (by decide) (by decide) (by decide) (by decide +kernel) (by decide +kernel) ex_lineZ).mono fun e w' q => ⟨q.1, (new_below W _).trans (q.2.out.mono (new_below W _).size)⟩
  have KA : Hid (∀ W : World, Below w.heap.size w W → Calls Tryd.prog 8 #[] W fun e w' => e = .returned (.bool true) ∧ Hid (Below W.heap.size W w')) := fun W hW => awake17 W (HL.out W hW)
  clear HL
  go_enter Tryd.func3, Tryd.ntmps3
  go_wp2_with fail
  refine (three44 w).mono ?_
  rintro e w1 ⟨x, rfl, H1⟩
  obtain ⟨b, o, hxa, hbl, xr, hx0, hxr⟩ := H1.out.1.rd.at 0 (by decide)
  have hxn : x.n = 3 := H1.out.1.len.symm
  obtain ⟨xa, xn, xc⟩ := x
  simp only at hxa hxn
  subst hxa
  subst hxn
  have KL := Lib.hid (K1.out w1 xr H1.out.2 hxr (by have := hxr.1.len; rw [← this]; decide))
  have HB1 := Lib.hid H1.out.2
  obtain ⟨⟨oa1, on1, oc1⟩, ⟨⟨a1, n1, k1⟩, ⟨a2, n2, k2⟩, ⟨a3, n3, k3⟩, ⟨a4, n4, k4⟩⟩⟩ := xr
  have c0 : w1.cell? ⟨b, o, none⟩ = some (.slice oa1 on1 oc1) := hx0 0 (by omega)
  have c1 : w1.cell? ⟨b, o + 1, none⟩ = some (.int .u16 1) := hx0 1 (by omega)
  have c2 : w1.cell? ⟨b, o + 2, none⟩ = some (.int .u16 1) := hx0 2 (by omega)
  have c3 : w1.cell? ⟨b, o + 3, none⟩ = some (.int .u32 60) := hx0 3 (by omega)
  have c4 : w1.cell? ⟨b, o + 4, none⟩ = some (.slice a1 n1 k1) := hx0 4 (by omega)
  have c5 : w1.cell? ⟨b, o + 5, none⟩ = some (.slice a2 n2 k2) := hx0 5 (by omega)
  have c6 : w1.cell? ⟨b, o + 6, none⟩ = some (.slice a3 n3 k3) := hx0 6 (by omega)
  have c7 : w1.cell? ⟨b, o + 7, none⟩ = some (.slice a4 n4 k4) := hx0 7 (by omega)
  replace KL : Hid (Calls Tryd.prog 4 #[.agg #[.slice oa1 on1 oc1, .int .u16 1, .int .u16 1, .int .u32 60, .slice a1 n1 k1, .slice a2 n2 k2, .slice a3 n3 k3, .slice a4 n4 k4]] w1 fun e w' => e = .returned (.tuple #[.string ⟨#[97, 46, 98, 46, 32, 54, 48, 32, 73, 78, 32, 65, 32, 49, 46, 50, 46, 51, 46, 52, 10]⟩, .int .i64 0]) ∧ Hid (Below w1.heap.size w1 w')) := KL
  clear hx0 hxr H1 K1
  go_wp2_with fail
  refine KL.out.mono ?_
  rintro e w2 ⟨rfl, H2⟩
  have HB2 := Lib.hid (HB1.out.trans (H2.out.mono HB1.out.size))
  clear c0 c1 c2 c3 c4 c5 c6 c7 hbl KL HB1 H2
  go_wp2_with fail
  refine (K2.out w2).mono ?_
  rintro e w3 ⟨rfl, H3⟩
  have HB3 := Lib.hid (HB2.out.trans (H3.out.mono HB2.out.size))
  clear HB2 H3 K2
  go_wp2_with fail
  refine (K3.out w3).mono ?_
  rintro e w4 ⟨rfl, H4⟩
  have HB4 := Lib.hid (HB3.out.trans (H4.out.mono HB3.out.size))
  clear HB3 H4 K3
  go_wp2_with fail
  refine (K4.out w4).mono ?_
  rintro e w5 ⟨rfl, H5⟩
  have HB5 := Lib.hid (HB4.out.trans (H5.out.mono HB4.out.size))
  clear HB4 H5 K4
  go_wp2_with fail
  refine (K5.out w5).mono ?_
  rintro e w6 ⟨rfl, H6⟩
  have HB6 := Lib.hid (HB5.out.trans (H6.out.mono HB5.out.size))
  clear HB5 H6 K5
  go_wp2_with fail
  refine (K6.out w6).mono ?_
  rintro e w7 ⟨rfl, H7⟩
  have HB7 := Lib.hid (HB6.out.trans (H7.out.mono HB6.out.size))
  clear HB6 H7 K6
  go_wp2_with fail
  refine (K7.out w7 HB7.out).mono ?_
  rintro e w8 ⟨rfl, H8⟩
  have HB8 := Lib.hid (HB7.out.trans (H8.out.mono HB7.out.size))
  clear HB7 H8 K7
  go_wp2_with (at_make; refine wpList_make_four _ rfl _ _ rfl _ rfl rfl rfl ?_)
  refine (K8.out w8 HB8.out).mono ?_
  rintro e w9 ⟨rfl, H9⟩
  have HB9 := Lib.hid (HB8.out.trans (H9.out.mono HB8.out.size))
  clear HB8 H9 K8
  go_wp2_with (at_make; refine wpList_make_four _ rfl _ _ rfl _ rfl rfl rfl ?_)
  refine (K9.out w9 HB9.out).mono ?_
  rintro e w10 ⟨rfl, H10⟩
  have HB10 := Lib.hid (HB9.out.trans (H10.out.mono HB9.out.size))
  clear HB9 H10 K9
  go_wp2_with (at_make; refine wpList_make_recs _ rfl _ _ rfl _ rfl rfl rfl ?_; intro W11 HM)
  have HB11 := Lib.hid (HB10.out.trans (HM.out.mono HB10.out.size))
  refine (text7_big _ 2049 2049 W11 (by omega) (by omega)).mono ?_
  rintro e w12 ⟨rfl, H12⟩
  have HB12 := Lib.hid (HB11.out.trans (H12.out.mono HB11.out.size))
  clear HB10 HB11 HM H12
  go_wp2_with fail
  refine (KA.out w12 HB12.out).mono ?_
  rintro e w13 ⟨rfl, H13⟩
  have HB13 := Lib.hid (HB12.out.trans (H13.out.mono HB12.out.size))
  clear HB12 H13 KA
  go_wp2_with fail
  go_ret
  exact ⟨rfl, HB13.out⟩
end Go.Proofs.YtoppdmlmhigogaaDoor
