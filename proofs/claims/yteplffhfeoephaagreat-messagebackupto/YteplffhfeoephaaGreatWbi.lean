/- Texts laid together, in parts: Mrk Mrm Mrn Mro Mrp Mrq Mwk Mwb Mwc. -/
import Derived.Test.YteplffhfeoephaaGreatWbh
import Derived.Deep.AppendLies
import Derived.Deep.RegionLaw
import Derived.Defers
import Derived.Recover
import Derived.Laws.CopyRow
set_option maxRecDepth 100000
set_option linter.unusedVariables false
set_option linter.unusedSimpArgs false
namespace Go.Proofs.YteplffhfeoephaaGreat
open Go.ChangeShapes Go.WideShapes Go.ChangeAt Go.RowKit Go.Maps
theorem ownsRow_keep {B : Nat} {e : TypeId} {size n : Nat} {xs : List Value} {v : Value} {w w' : World} (h : w.ownsRow B e size v n xs) (hb : ∀ j, B <= j -> j < w.heap.size -> w'.heap[j]? = w.heap[j]?) : w'.ownsRow B e size v n xs := by
 refine ⟨h.1, ?_⟩
 rcases h.2 with h0 | ⟨g, cap, cur, rfl, hbb, hg, k⟩
 · exact .inl h0
 · exact .inr ⟨g, cap, cur, rfl, hbb, (hb g hbb (Array.getElem?_eq_some_iff.1 hg).1).trans hg, k⟩
theorem OwQ.keep {B : Nat} {w w' : World} {v : Value} {qs : List Qn} (h : OwQ B w v qs) (hs : w.heap.size <= w'.heap.size) (hb : ∀ j, B <= j -> j < w.heap.size -> w'.heap[j]? = w.heap[j]?) : OwQ B w' v qs := by
 obtain ⟨ps, h1, h2, h3⟩ := h
 exact ⟨ps, h1, ownsRow_keep h2 hb, fun p hp => (h3 p hp).go hs (fun j hj hB _ => hb j hB hj) (fun j _ h => h)⟩
theorem OwR.keep {B : Nat} {w w' : World} {v : Value} {qs : List Rec} (h : OwR B w v qs) (hs : w.heap.size <= w'.heap.size) (hb : ∀ j, B <= j -> j < w.heap.size -> w'.heap[j]? = w.heap[j]?) : OwR B w' v qs := by
 obtain ⟨ps, h1, h2, h3⟩ := h
 exact ⟨ps, h1, ownsRow_keep h2 hb, fun p hp => (h3 p hp).go hs (fun j hj hB _ => hb j hB hj) (fun j _ h => h)⟩
theorem OwR.nil' (B : Nat) (w : World) : OwR B w (.slice none 0 0) [] := ⟨[], rfl, ⟨rfl, .inl ⟨rfl, rfl⟩⟩, by simp⟩
theorem OwQ.pushG {B r0 : Nat} {wr w2 w3 w4 : World} {v v' : Value} {ps : List (Sl × Qn)} {y : Sl} {r : Qn} (h3 : ∀ p ∈ ps, RfQ B wr v.ownBlock p.1 p.2) (hl : wr.ownsRow B 64 3 v ps.length (cellsQ ps)) (hB : B <= wr.heap.size) (hr : r0 < B) (hy : QOwx wr.heap.size w2 y r) (hb3 : Below w2.heap.size w2 w3) (hb2 : wr.grownBy w2 (some r0)) (h5 : w4.ownsRow B 64 3 v' (ps.length + 1) (cellsQ ps ++ cellsQ [(y, r)])) (h6 : w3.grownBy w4 v.ownBlock) (h7 : v'.ownBlock = v.ownBlock ∨ v'.ownBlock = some w3.heap.size) : OwQ B w4 v' (ps.map (·.2) ++ [r]) := by
 refine ⟨ps ++ [(y, r)], by simp, ?_, ?_⟩
 · rw [cellsQ_app, List.length_append]; exact h5
 · have s2 := hb2.size
   have s3 := hb3.size
   have s4 := h6.size
   have hlt := hl.lt
   intro p hp
   rcases List.mem_append.1 hp with hp | hp
   · refine (h3 p hp).go (by omega) (fun j e1 e2 e3 => ?_) (fun j e1 e2 => ?_)
     · rw [h6.block j (by omega) e3, hb3.block j (by omega), hb2.block j e1 (fun e => by injection e with e; omega)]
     · rcases h7 with h7 | h7
       · rw [h7]; exact e2
       · rw [h7]; intro e; injection e with e; omega
   · rw [List.mem_singleton] at hp
     subst hp
     have := RfQ.of (g := v.ownBlock) hy hB (fun k e => (hlt k e).2)
     refine this.go (by omega) (fun j e1 e2 e3 => ?_) (fun j e1 e2 => ?_)
     · rw [h6.block j (by omega) e3, hb3.block j (by omega)]
     · rcases h7 with h7 | h7
       · rw [h7]; exact e2
       · rw [h7]; intro e; injection e with e; omega
theorem OwR.pushG {B r0 : Nat} {wr w2 w3 w4 : World} {v v' : Value} {ps : List (RA × Rec)} {y : RA} {r : Rec} (h3 : ∀ p ∈ ps, RfR B wr v.ownBlock p.1 p.2) (hl : wr.ownsRow B 61 8 v ps.length (cellsR ps)) (hB : B <= wr.heap.size) (hr : r0 < B) (hy : ROwx wr.heap.size w2 y r) (hb3 : Below w2.heap.size w2 w3) (hb2 : wr.grownBy w2 (some r0)) (h5 : w4.ownsRow B 61 8 v' (ps.length + 1) (cellsR ps ++ cellsR [(y, r)])) (h6 : w3.grownBy w4 v.ownBlock) (h7 : v'.ownBlock = v.ownBlock ∨ v'.ownBlock = some w3.heap.size) : OwR B w4 v' (ps.map (·.2) ++ [r]) := by
 refine ⟨ps ++ [(y, r)], by simp, ?_, ?_⟩
 · rw [cellsR_app, List.length_append]; exact h5
 · have s2 := hb2.size
   have s3 := hb3.size
   have s4 := h6.size
   have hlt := hl.lt
   intro p hp
   rcases List.mem_append.1 hp with hp | hp
   · refine (h3 p hp).go (by omega) (fun j e1 e2 e3 => ?_) (fun j e1 e2 => ?_)
     · rw [h6.block j (by omega) e3, hb3.block j (by omega), hb2.block j e1 (fun e => by injection e with e; omega)]
     · rcases h7 with h7 | h7
       · rw [h7]; exact e2
       · rw [h7]; intro e; injection e with e; omega
   · rw [List.mem_singleton] at hp
     subst hp
     have := RfR.of (g := v.ownBlock) hy hB (fun k e => (hlt k e).2)
     refine this.go (by omega) (fun j e1 e2 e3 => ?_) (fun j e1 e2 => ?_)
     · rw [h6.block j (by omega) e3, hb3.block j (by omega)]
     · rcases h7 with h7 | h7
       · rw [h7]; exact e2
       · rw [h7]; intro e; injection e with e; omega
def Stb (B S : Nat) (P : World -> Prop) (w : World) : Prop := S <= w.heap.size /\ ∀ w' : World, S <= w'.heap.size -> (∀ j, B <= j -> j < S -> w'.heap[j]? = w.heap[j]?) -> P w'
theorem Stb.get {B S : Nat} {P : World -> Prop} {w : World} (h : Stb B S P w) : P w := h.2 w h.1 (fun _ _ _ => rfl)
theorem Stb.go {B S : Nat} {P : World -> Prop} {w w' : World} (h : Stb B S P w) (hs : w.heap.size <= w'.heap.size) (hb : ∀ j, B <= j -> j < S -> w'.heap[j]? = w.heap[j]?) : Stb B S P w' :=
 ⟨Nat.le_trans h.1 hs, fun w2 h1 h2 => h.2 w2 h1 (fun j e1 e2 => (h2 j e1 e2).trans (hb j e1 e2))⟩
theorem Stb.ofQ {B : Nat} {w : World} {v : Value} {qs : List Qn} (h : OwQ B w v qs) : Stb B w.heap.size (fun W => OwQ B W v qs) w := ⟨Nat.le_refl _, fun w' hs hb => h.keep hs hb⟩
theorem Stb.ofR {B : Nat} {w : World} {v : Value} {qs : List Rec} (h : OwR B w v qs) : Stb B w.heap.size (fun W => OwR B W v qs) w := ⟨Nat.le_refl _, fun w' hs hb => h.keep hs hb⟩
theorem Stb.and {B B' S S' : Nat} {P Q : World -> Prop} {w : World} (h : Stb B S P w) (k : Stb B' S' Q w) (hS : S <= S') (hB : B <= B') : Stb B S' (fun W => P W /\ Q W) w :=
 ⟨k.1, fun w' hs hb => ⟨h.2 w' (by omega) (fun j e1 e2 => hb j e1 (by omega)), k.2 w' hs (fun j e1 e2 => hb j (by omega) e2)⟩⟩
def Mny {α T : Type} (f : Nat -> Option (α × Nat)) (F : List α -> Nat -> Option T) (m : Nat) (pre : List α) (q : Nat) : Option T := (gmany f m q).bind fun a => F (pre ++ a.1) a.2
theorem Mny.zero {α T : Type} (f : Nat -> Option (α × Nat)) (F : List α -> Nat -> Option T) (pre : List α) (q : Nat) : Mny f F 0 pre q = F pre q := by simp [Mny, gmany]
theorem Mny.none {α T : Type} {f : Nat -> Option (α × Nat)} {F : List α -> Nat -> Option T} {m : Nat} {pre : List α} {q : Nat} (h : f q = .none) : Mny f F (m + 1) pre q = .none := by simp [Mny, gmany, h]
theorem Mny.some {α T : Type} {f : Nat -> Option (α × Nat)} {F : List α -> Nat -> Option T} {m : Nat} {pre : List α} {q : Nat} {x : α × Nat} (h : f q = .some x) : Mny f F (m + 1) pre q = Mny f F m (pre ++ [x.1]) x.2 := by
 simp only [Mny, gmany, h, Option.bind_some]
 cases gmany f m x.2 with
 | none => rfl
 | some y => simp
theorem gbody_mny (c0 c1 c2 c3 : Nat) (zs : List Int) (p : Nat) : gbody c0 c1 c2 c3 zs p = Mny (gqn zs) (fun qs q => Mny (grec zs) (fun a q => Mny (grec zs) (fun u q => Mny (grec zs) (fun d q => some ((qs, a, u, d), q)) c3 [] q) c2 [] q) c1 [] q) c0 [] p := by
 unfold gbody Mny
 simp only [List.nil_append]
 congr 1
 funext q
 congr 1
 funext a
 congr 1
 funext u
 cases gmany (grec zs) c3 u.2 <;> rfl
theorem inf64 : ∃ i, Tryz.prog.info? 64 = some i /\ i.zero = some (.agg #[.slice none 0 0, .int .u16 0, .int .u16 0]) /\ i.size = 3 /\ i.bytes = 32 := by
 have h : (Tryz.prog.info? 64).map (fun i => (i.zero, i.size, i.bytes)) = some (some (.agg #[.slice none 0 0, .int .u16 0, .int .u16 0]), 3, 32) := by kernel_rfl
 obtain ⟨i, h1, h2⟩ := Option.map_eq_some_iff.1 h
 simp only [Prod.mk.injEq] at h2
 exact ⟨i, h1, h2.1, h2.2.1, h2.2.2⟩
theorem inf61 : ∃ i, Tryz.prog.info? 61 = some i /\ i.zero = some (.agg #[.slice none 0 0, .int .u16 0, .int .u16 0, .int .u32 0, .slice none 0 0, .slice none 0 0, .slice none 0 0, .slice none 0 0]) /\ i.size = 8 /\ i.bytes = 128 := by
 have h : (Tryz.prog.info? 61).map (fun i => (i.zero, i.size, i.bytes)) = some (some (.agg #[.slice none 0 0, .int .u16 0, .int .u16 0, .int .u32 0, .slice none 0 0, .slice none 0 0, .slice none 0 0, .slice none 0 0]), 8, 128) := by kernel_rfl
 obtain ⟨i, h1, h2⟩ := Option.map_eq_some_iff.1 h
 simp only [Prod.mk.injEq] at h2
 exact ⟨i, h1, h2.1, h2.2.1, h2.2.2⟩
end Go.Proofs.YteplffhfeoephaaGreat
namespace Go.Proofs.YteplffhfeoephaaGreat
open Go.ChangeShapes Go.WideShapes Go.ChangeAt Go.RowKit Go.Maps
def upd {α : Type} (f : Nat -> α) (j : Nat) (x : α) : Nat -> α := fun i => if i = j then x else f i
def RSf (zs : List Int) (qs : List Qn) (cs : Nat -> Nat) : Nat -> (Nat -> List Rec) -> Nat -> Option ((List Qn × List Rec × List Rec × List Rec) × Nat)
 | 0, ls, q => some ((qs, ls 0, ls 1, ls 2), q)
 | f + 1, ls, q => Mny (grec zs) (fun a q => RSf zs qs cs f (upd ls (2 - f) a) q) (cs (2 - f)) [] q
def cs3 (a b c : Nat) : Nat -> Nat := fun i => if i = 0 then a else if i = 1 then b else c
theorem gbody_rs (c0 c1 c2 c3 : Nat) (zs : List Int) (p : Nat) : gbody c0 c1 c2 c3 zs p = Mny (gqn zs) (fun qs q => RSf zs qs (cs3 c1 c2 c3) 3 (fun _ => []) q) c0 [] p := by
 rw [gbody_mny]
 simp [RSf, cs3, upd]
structure Gm where
 w : World
 R : Nat
 M : Nat
 C : Nat
 r : Nat
 b : Nat
 o : Nat
 n : Nat
 c : Nat
 zs : List Int
 I : Nat
 F : Nat
 C2 : Nat
 C3 : Nat
 C4 : Nat
 C5 : Nat
structure Gk (g : Gm) : Prop where
 hR : g.R = g.w.heap.size
 rR : g.r < g.R
 bR : g.b < g.R
 RM : g.R < g.M
 MC : g.C = g.M + 1
 n1 : 1 <= g.n
structure Ms (g : Gm) (wr : World) (v : Value) (vs : Nat -> Value) (q : Nat) : Prop where
 res : wr.heap[g.R]? = some (.cells #[.int .u16 0, .bool false, .int .i64 0, .bool false, .bool false, .bool false, .bool false, .bool false, .bool false, .int .i64 0, .slice none 0 0, .slice none 0 0, .slice none 0 0, .slice none 0 0] 26)
 box : wr.heap[g.M]? = some (.cells #[.int .u16 (g.I : Int), .bool (unfl g.F 32768), .int .i64 (unop g.F : Nat), .bool (unfl g.F 1024), .bool (unfl g.F 512), .bool (unfl g.F 256), .bool (unfl g.F 128), .bool (unfl g.F 32), .bool (unfl g.F 16), .int .i64 (unrc g.F : Nat), v, vs 0, vs 1, vs 2] 26)
 cnt : wr.heap[g.C]? = some (.cells #[.int .i64 (g.C2 : Int), .int .i64 (g.C3 : Int), .int .i64 (g.C4 : Int), .int .i64 (g.C5 : Int)] 74)
 rdr : Rdr wr g.r (some ⟨g.b, g.o, none⟩) g.n g.c g.zs q
 gr : g.w.grownBy wr (some g.r)
 sz : g.C + 1 <= wr.heap.size
theorem Ms.push {g : Gm} (k : Gk g) {wr w6 w6a w7 : World} {v : Value} {vs : Nat -> Value} {q q' : Nat} {ow : Option Nat} (h : Ms g wr v vs q) (h1 : Rdr w6 g.r (some ⟨g.b, g.o, none⟩) g.n g.c g.zs q') (h2 : wr.grownBy w6 (some g.r)) (h3 : Below w6.heap.size w6 w6a) (h4 : w6a.grownBy w7 ow) (h5 : ∀ j, ow = some j -> g.C + 1 <= j) : Ms g w7 v vs q' := by
 obtain ⟨kR, rR, bR, RM, MC, n1⟩ := k
 have e : ∀ j, j < g.C + 1 -> j ≠ g.r -> w7.heap[j]? = wr.heap[j]? := fun j hj hne => by
   have := h.sz
   have := h2.size
   have := h3.size
   rw [h4.block j (by omega) (fun e => by have := h5 j e.symm; omega), h3.block j (by omega), h2.block j (by omega) (fun e => hne (by injection e))]
 refine ⟨(e _ (by omega) (by omega)).trans h.res, (e _ (by omega) (by omega)).trans h.box, (e _ (by omega) (by omega)).trans h.cnt, ?_, ?_, ?_⟩
 · have hb6 := (h1.below h3)
   exact hb6.app h4 (B := g.C + 1) (by omega) (by omega) (box_lt hb6.box) (hb6.blt n1) h5
 · refine grown_apx (grown_trans h.gr (grown_trans h2 (grown_of h3))) h4 (fun j ej => ?_)
   have := h5 j ej
   omega
 · have := h.sz
   have := h2.size
   have := h3.size
   have := h4.size
   omega
theorem Ms.setQ {g : Gm} (k : Gk g) {w7 : World} {v : Value} {vs : Nat -> Value} {q : Nat} (h : Ms g w7 v vs q) (v' : Value) : Ms g (w7.setCell ⟨g.M, 10, none⟩ v') v' vs q := by
 obtain ⟨kR, rR, bR, RM, MC, n1⟩ := k
 have e : ∀ j, j ≠ g.M -> (w7.setCell ⟨g.M, 10, none⟩ v').heap[j]? = w7.heap[j]? := fun j hj => Below.heap_setCell _ _ _ j hj
 have hg := grown_set w7 g.M 10 v'
 refine ⟨(e _ (by omega)).trans h.res, heap_set h.box 10 v', (e _ (by omega)).trans h.cnt, ?_, ?_, Nat.le_trans h.sz hg.size⟩
 · exact h.rdr.app hg (B := g.M) (by omega) (by omega) (box_lt h.rdr.box) (h.rdr.blt n1) (fun j ej => by injection ej with ej; omega)
 · exact grown_apx h.gr hg (fun j ej => by injection ej with ej; omega)
theorem Ms.setR {g : Gm} (k : Gk g) {w7 : World} {v : Value} {vs : Nat -> Value} {q : Nat} (h : Ms g w7 v vs q) (j : Nat) (hj : j < 3) (v' : Value) : Ms g (w7.setCell ⟨g.M, 11 + j, none⟩ v') v (upd vs j v') q := by
 obtain ⟨kR, rR, bR, RM, MC, n1⟩ := k
 have e : ∀ i, i ≠ g.M -> (w7.setCell ⟨g.M, 11 + j, none⟩ v').heap[i]? = w7.heap[i]? := fun i hi => Below.heap_setCell _ _ _ i hi
 have hg := grown_set w7 g.M (11 + j) v'
 refine ⟨(e _ (by omega)).trans h.res, ?_, (e _ (by omega)).trans h.cnt, ?_, ?_, Nat.le_trans h.sz hg.size⟩
 · have hc : j = 0 ∨ j = 1 ∨ j = 2 := by omega
   have hx := heap_set h.box (11 + j) v'
   rcases hc with rfl | rfl | rfl
   · exact hx
   · exact hx
   · exact hx
 · exact h.rdr.app hg (B := g.M) (by omega) (by omega) (box_lt h.rdr.box) (h.rdr.blt n1) (fun j ej => by injection ej with ej; omega)
 · exact grown_apx h.gr hg (fun j ej => by injection ej with ej; omega)
theorem Ms.cell {g : Gm} {wr : World} {v : Value} {vs : Nat -> Value} {q : Nat} (h : Ms g wr v vs q) (j : Nat) (hj : j < 3) : wr.cell? ⟨g.M, 11 + j, none⟩ = some (vs j) := by
 have hc : j = 0 ∨ j = 1 ∨ j = 2 := by omega
 rcases hc with rfl | rfl | rfl
 · exact box_cell h.box 11 _ rfl
 · exact box_cell h.box 12 _ rfl
 · exact box_cell h.box 13 _ rfl
theorem Ms.count {g : Gm} {wr : World} {v : Value} {vs : Nat -> Value} {q : Nat} (h : Ms g wr v vs q) (j : Nat) (hj : j < 3) : wr.cell? ⟨g.C, 1 + j, none⟩ = some (.int .i64 (cs3 g.C3 g.C4 g.C5 j : Int)) := by
 have hc : j = 0 ∨ j = 1 ∨ j = 2 := by omega
 rcases hc with rfl | rfl | rfl
 · exact box_cell h.cnt 1 _ rfl
 · exact box_cell h.cnt 2 _ rfl
 · exact box_cell h.cnt 3 _ rfl
theorem Ms.below {g : Gm} {wr w' : World} {v : Value} {vs : Nat -> Value} {q : Nat} (k : Gk g) (h : Ms g wr v vs q) (hb : Below wr.heap.size wr w') : Ms g w' v vs q := by
 have := h.push k h.rdr (World.grownBy.refl _ _) hb (World.grownBy.refl w' none) (fun j e => by cases e)
 exact this
def Dn (B : Nat) (v : Value) (qs : List Qn) (vs : Nat -> Value) (ls : Nat -> List Rec) (j : Nat) (W : World) : Prop := OwQ B W v qs /\ ∀ i, i < j -> OwR B W (vs i) (ls i)
theorem Dn.next {B B1 S : Nat} {v : Value} {qs : List Qn} {vs vs' : Nat -> Value} {ls : Nat -> List Rec} {j : Nat} {w : World} {pre : List Rec} (h : Stb B S (Dn B v qs vs ls j) w) (hvs : ∀ i, i ≠ j -> vs' i = vs i) (hl : OwR B1 w (vs' j) pre) (hB : B <= B1) : Stb B w.heap.size (Dn B v qs vs' (upd ls j pre) (j + 1)) w := by
 have h2 := h.and (Stb.ofR hl) h.1 hB
 refine ⟨h2.1, fun w' hs hb => ?_⟩
 obtain ⟨⟨p1, p2⟩, p3⟩ := h2.2 w' hs hb
 refine ⟨p1, fun i hi => ?_⟩
 unfold upd
 by_cases e : i = j
 · subst e
   rw [if_pos rfl]
   exact p3.mono hB
 · rw [if_neg e, hvs i e]
   exact p2 i (by omega)
end Go.Proofs.YteplffhfeoephaaGreat
namespace Go.Proofs.YteplffhfeoephaaGreat
open Go.ChangeShapes Go.WideShapes Go.ChangeAt Go.RowKit Go.Maps
def RmG (r n : Nat) (w : World) (I F : Nat) (G : Option ((List Qn × List Rec × List Rec × List Rec) × Nat)) (e : Ending) (w' : World) : Prop :=
 (∀ x, G = some x -> x.2 = n -> ∃ (v : Value) (vs : Nat -> Value), e = .returned (.agg #[.int .u16 (I : Int), .bool (unfl F 32768), .int .i64 (unop F : Nat), .bool (unfl F 1024), .bool (unfl F 512), .bool (unfl F 256), .bool (unfl F 128), .bool (unfl F 32), .bool (unfl F 16), .int .i64 (unrc F : Nat), v, vs 0, vs 1, vs 2]) /\ Hid (OwQ w.heap.size w' v x.1.1 /\ OwR w.heap.size w' (vs 0) x.1.2.1 /\ OwR w.heap.size w' (vs 1) x.1.2.2.1 /\ OwR w.heap.size w' (vs 2) x.1.2.2.2 /\ w.grownBy w' (some r))) /\
 ((G = none ∨ ∃ x, G = some x /\ x.2 ≠ n) -> e = .panicked thrown /\ Hid (w.grownBy w' (some r)))
theorem RmG.dies {r n : Nat} {w w' : World} {I F : Nat} {G : Option ((List Qn × List Rec × List Rec × List Rec) × Nat)} (h : G = none) (hg : w.grownBy w' (some r)) : RmG r n w I F G (.panicked thrown) w' :=
 ⟨fun x e => (by rw [h] at e; cases e), fun _ => ⟨rfl, hg⟩⟩
theorem wr_drew {w w' : World} {r : Nat} (h : w.drew.grownBy w' (some r)) : w.grownBy w' (some r) := grown_trans (grown_of ((Below.refl w.heap.size w).drew)) h
set_option maxHeartbeats 8000000 in
theorem rmsg_walk (r b o n c : Nat) (zs : List Int) (p I F C2 C3 C4 C5 : Nat) (w : World) (h : Rdr w r (some ⟨b, o, none⟩) n c zs p) (h1 : 1 <= n) (hc2 : C2 <= 16) (hc3 : C3 + C4 + C5 <= 512)
   (K1 : Hid (∀ W, Rdr W r (some ⟨b, o, none⟩) n c zs p -> Calls Tryz.prog 99 #[.pointer (some ⟨r, 0, none⟩)] W fun e w' => e = .returned (.tuple #[.agg #[.int .u16 (I : Int), .bool (unfl F 32768), .int .i64 (unop F : Nat), .bool (unfl F 1024), .bool (unfl F 512), .bool (unfl F 256), .bool (unfl F 128), .bool (unfl F 32), .bool (unfl F 16), .int .i64 (unrc F : Nat), .slice none 0 0, .slice none 0 0, .slice none 0 0, .slice none 0 0], .agg #[.int .i64 (C2 : Int), .int .i64 (C3 : Int), .int .i64 (C4 : Int), .int .i64 (C5 : Int)]]) /\ Hid (Rdr w' r (some ⟨b, o, none⟩) n c zs 12 /\ W.grownBy w' (some r))))
   (G : Option ((List Qn × List Rec × List Rec × List Rec) × Nat)) (HG : Hid (gbody C2 C3 C4 C5 zs 12 = G)) :
   Calls Tryz.prog 65 #[.pointer (some ⟨r, 0, none⟩)] w (RmG r n w I F G) := by
 have hrw := box_lt h.box
 have hbw := h.blt h1
 have KY := fun W => Lib.hid (need_yes W)
 have KNo := fun W => Lib.hid (need_no W)
 have hb0 : Below w.heap.size w (w.alloc (.cells #[.int .u16 0, .bool false, .int .i64 0, .bool false, .bool false, .bool false, .bool false, .bool false, .bool false, .int .i64 0, .slice none 0 0, .slice none 0 0, .slice none 0 0, .slice none 0 0] 26)) := newq_below _ _
 have HR0 := Lib.hid (h.below hb0)
 have HD0 : Hid ((w.alloc (.cells #[.int .u16 0, .bool false, .int .i64 0, .bool false, .bool false, .bool false, .bool false, .bool false, .bool false, .int .i64 0, .slice none 0 0, .slice none 0 0, .slice none 0 0, .slice none 0 0] 26)).heap[w.heap.size]? = some (.cells #[.int .u16 0, .bool false, .int .i64 0, .bool false, .bool false, .bool false, .bool false, .bool false, .bool false, .int .i64 0, .slice none 0 0, .slice none 0 0, .slice none 0 0, .slice none 0 0] 26)) := heap_alloc_new _ _
 have HB0 := Lib.hid hb0
 obtain ⟨R, hR⟩ : ∃ R, R = w.heap.size := ⟨_, rfl⟩
 have HRR := Lib.hid hR
 rw [<- hR] at HD0 hrw hbw
 clear h hb0
 go_enter Tryz.func65, Tryz.ntmps65
 go_wp2_with fail
 simp only [<- hR]
 generalize w.alloc (.cells #[.int .u16 0, .bool false, .int .i64 0, .bool false, .bool false, .bool false, .bool false, .bool false, .bool false, .int .i64 0, .slice none 0 0, .slice none 0 0, .slice none 0 0, .slice none 0 0] 26) = w0 at *
 clear hR
 refine (K1.out w0 HR0.out).mono ?_
 rintro e1 w1 ⟨rfl, H1⟩
 obtain ⟨v0, v1, v2, v3⟩ := two_at w1 (.cells #[.int .u16 (I : Int), .bool (unfl F 32768), .int .i64 (unop F : Nat), .bool (unfl F 1024), .bool (unfl F 512), .bool (unfl F 256), .bool (unfl F 128), .bool (unfl F 32), .bool (unfl F 16), .int .i64 (unrc F : Nat), .slice none 0 0, .slice none 0 0, .slice none 0 0, .slice none 0 0] 26) (.cells #[.int .i64 (C2 : Int), .int .i64 (C3 : Int), .int .i64 (C4 : Int), .int .i64 (C5 : Int)] 74)
 obtain ⟨M, hM⟩ : ∃ M, M = w1.heap.size := ⟨_, rfl⟩
 obtain ⟨C, hC⟩ : ∃ C, C = M + 1 := ⟨_, rfl⟩
 have hRM : R < M := by
   have := H1.out.2.size
   have := box_lt HD0.out
   omega
 have HGK : Hid (Gk (⟨w, R, M, C, r, b, o, n, c, zs, I, F, C2, C3, C4, C5⟩ : Gm)) := ⟨HRR.out, hrw, hbw, hRM, hC, h1⟩
 have HMS : Hid (Ms (⟨w, R, M, C, r, b, o, n, c, zs, I, F, C2, C3, C4, C5⟩ : Gm) ((w1.alloc (.cells #[.int .u16 (I : Int), .bool (unfl F 32768), .int .i64 (unop F : Nat), .bool (unfl F 1024), .bool (unfl F 512), .bool (unfl F 256), .bool (unfl F 128), .bool (unfl F 32), .bool (unfl F 16), .int .i64 (unrc F : Nat), .slice none 0 0, .slice none 0 0, .slice none 0 0, .slice none 0 0] 26)).alloc (.cells #[.int .i64 (C2 : Int), .int .i64 (C3 : Int), .int .i64 (C4 : Int), .int .i64 (C5 : Int)] 74)) (.slice none 0 0) (fun _ => .slice none 0 0) 12) := by
   rw [<- hM] at v0 v1 v2
   rw [<- hC] at v1
   refine ⟨?_, v0, v1, H1.out.1.below v3, grown_trans (grown_trans (grown_of HB0.out) H1.out.2) (grown_of v3), ?_⟩
   · exact (v3.block R (by have := H1.out.2.size; have := box_lt HD0.out; omega)).trans ((H1.out.2.block R (box_lt HD0.out) (fun e => by injection e with e; omega)).trans HD0.out)
   · show C + 1 <= _
     omega
 clear v0 v1 v2 v3 H1 HD0 HB0 HR0 K1
 go_upto_region 2 with fail
 simp only [World.size_alloc, <- hM, <- hC]
 generalize ((w1.alloc (.cells #[.int .u16 (I : Int), .bool (unfl F 32768), .int .i64 (unop F : Nat), .bool (unfl F 1024), .bool (unfl F 512), .bool (unfl F 256), .bool (unfl F 128), .bool (unfl F 32), .bool (unfl F 16), .int .i64 (unrc F : Nat), .slice none 0 0, .slice none 0 0, .slice none 0 0, .slice none 0 0] 26)).alloc (.cells #[.int .i64 (C2 : Int), .int .i64 (C3 : Int), .int .i64 (C4 : Int), .int .i64 (C5 : Int)] 74)) = w2 at *
 have HMC : Hid (C = M + 1) := hC
 clear hM hC
 have hMC1 : ¬ C = M := by have := HMC.out; omega
 have hMC2 : ¬ M = C := by omega
 have k0 : w2.cell? ⟨C, 0, none⟩ = some (.int .i64 (C2 : Int)) := box_cell HMS.out.cnt 0 _ rfl
 have lC : C < w2.heap.size := box_lt HMS.out.cnt
 obtain ⟨FQ, HFQ⟩ : ∃ FQ : List Qn -> Nat -> Option ((List Qn × List Rec × List Rec × List Rec) × Nat), Hid (FQ = fun qs q => RSf zs qs (cs3 C3 C4 C5) 3 (fun _ => []) q) := ⟨_, rfl⟩
 have HG0 : Hid (G = Mny (gqn zs) FQ C2 [] 12) := by
   show G = _
   rw [<- HG.out, gbody_rs, HFQ.out]
 clear HG
 obtain ⟨i64, hi, hz0, hz1, hz2⟩ := inf64
 have HI : Hid (Tryz.prog.info? 64 = some i64 /\ i64.zero = some (.agg #[.slice none 0 0, .int .u16 0, .int .u16 0]) /\ i64.size = 3 /\ i64.bytes = 32) := ⟨hi, hz0, hz1, hz2⟩
 clear hi hz0 hz1 hz2
 obtain ⟨i61, hi, hz0, hz1, hz2⟩ := inf61
 have HJ : Hid (Tryz.prog.info? 61 = some i61 /\ i61.zero = some (.agg #[.slice none 0 0, .int .u16 0, .int .u16 0, .int .u32 0, .slice none 0 0, .slice none 0 0, .slice none 0 0, .slice none 0 0]) /\ i61.size = 8 /\ i61.bytes = 128) := ⟨hi, hz0, hz1, hz2⟩
 clear hi hz0 hz1 hz2
 go_wp2_with fail
 go_loopw [14] (fun y wr => ∃ (k q : Nat) (v : Value) (pre : List Qn), k <= C2 /\ y = .int .i64 (k : Int) /\ pre.length = k /\ Hid (Ms (⟨w, R, M, C, r, b, o, n, c, zs, I, F, C2, C3, C4, C5⟩ : Gm) wr v (fun _ => .slice none 0 0) q /\ OwQ (C + 1) wr v pre /\ G = Mny (gqn zs) FQ (C2 - k) pre q)) (fun y _ => C2 - (intOf y).toNat)
 case atStart => exact ⟨0, 12, _, [], Nat.zero_le _, rfl, rfl, HMS.out, OwQ.nil _ _, HG0.out⟩
 case round =>
   obtain ⟨k, q, v, pre, hk, rfl, hpl, HW⟩ := hrel
   clear HMS HG0 k0 lC
   have lM : M < wr.heap.size := box_lt HW.out.1.box
   have hx0 : C + 1 <= wr.heap.size := HW.out.1.sz
   by_cases hlt : k < C2
   · have hlt' : (k : Int) < (C2 : Int) := by omega
     have e1 : C2 - k = (C2 - (k + 1)) + 1 := by omega
     have c10 : wr.drew.cell? ⟨M, 10, none⟩ = some v := box_cell (w := wr.drew) HW.out.1.box 10 _ rfl
     have HRd := Lib.hid (HW.out.1.rdr.below ((Below.refl wr.heap.size wr).drew))
     cases hgq : gqn zs q with
     | none =>
       have HGN : Hid (G = none) := by
         have := HW.out.2.2
         rw [e1] at this
         exact this.trans (Mny.none hgq)
       have KC := Lib.hid (rqn_no r (some ⟨b, o, none⟩) n c zs q wr.drew HRd.out hgq)
       have HGr := Lib.hid HW.out.1.gr
       go_wp2_with fail
       go_region_dies
       all_goals (refine KC.out.mono ?_; rintro e w6 ⟨rfl, H6⟩; go_wp2; exact ⟨rfl, RmG.dies HGN.out (grown_trans HGr.out (wr_drew H6.out))⟩)
     | some x =>
       have HGS : Hid (G = Mny (gqn zs) FQ (C2 - (k + 1)) (pre ++ [x.1]) x.2) := by
         have := HW.out.2.2
         rw [e1] at this
         exact this.trans (Mny.some hgq)
       have KC : Hid (Calls Tryz.prog 100 #[.pointer (some ⟨r, 0, none⟩)] wr.drew fun e w' => ∃ s : Sl, e = .returned (.agg #[.slice s.a s.n s.c, .int .u16 x.1.ty, .int .u16 x.1.cl]) /\ Hid (Rdr w' r (some ⟨b, o, none⟩) n c zs x.2 /\ Owx1 wr.heap.size w' s x.1.nm /\ wr.grownBy w' (some r))) := (rqn_yes r b o n c zs q x wr.drew HRd.out h1 hgq).mono fun e w' hh => by
         obtain ⟨s, e5, H5⟩ := hh
         exact ⟨s, e5, H5.out.1, H5.out.2.1, wr_drew H5.out.2.2⟩
       obtain ⟨⟨nm, t, cl⟩, q2⟩ := x
       simp only at KC HGS
       obtain ⟨ps, hp1, hp2, hp3⟩ := HW.out.2.1
       have hpk : ps.length = k := by rw [<- hpl, <- hp1]; simp
       have HP : Hid (ps.map (·.2) = pre /\ ∀ p ∈ ps, RfQ (C + 1) wr v.ownBlock p.1 p.2) := ⟨hp1, hp3⟩
       have HPO : Hid (wr.ownsRow (C + 1) 64 3 v ps.length (cellsQ ps)) := hp2
       have hbnd : ps.length <= 16 := by omega
       have HPK := Lib.hid hpk
       have HML := Lib.hid HW.out.1
       have hrC : r < C + 1 := by have := HMC.out; omega
       have H6A : Hid (∀ W : World, wr.grownBy W (some r) -> W.cell? ⟨M, 10, none⟩ = some v /\ C + 1 <= W.heap.size /\ M < W.heap.size /\ W.ownsRow (C + 1) 64 3 v ps.length (cellsQ ps)) := fun W hg => ⟨box_cell ((hg.block M lM (fun e => by injection e with e; omega)).trans HML.out.box) 10 _ rfl, Nat.le_trans hx0 hg.size, Nat.lt_of_lt_of_le lM hg.size, ownsRow_keep HPO.out (fun j h1 h2 => hg.block j h2 (fun e => by injection e with e; omega))⟩
       have H7A : Hid (∀ W W6 W7 : World, Rdr W r (some ⟨b, o, none⟩) n c zs q2 -> wr.grownBy W (some r) -> Below W.heap.size W W6 -> W6.grownBy W7 v.ownBlock -> Ms (⟨w, R, M, C, r, b, o, n, c, zs, I, F, C2, C3, C4, C5⟩ : Gm) W7 v (fun _ => .slice none 0 0) q2) := fun W W6 W7 g1 g2 g3 g4 => HML.out.push HGK.out g1 g2 g3 g4 (fun j ej => (HPO.out.lt j ej).1)
       clear hp1 hp2 hp3 hpk HW
       go_wp2_with fail
       go_region_law (first
         | (go_simp; go_at_call 100; refine KC.out.mono ?_; rintro e w6 ⟨⟨ya, yn, yc⟩, rfl, HC⟩; obtain ⟨d10, l6, m6, o6⟩ := H6A.out w6 HC.out.2.2; have O6 := Lib.hid o6; clear o6; have d11 : (w6.alloc (.cells #[.slice ya yn yc, .int .u16 (t : Int), .int .u16 (cl : Int)] 64)).cell? ⟨M, 10, none⟩ = some v := ((newq_below w6 _).cell (p := ⟨M, 10, none⟩) m6).trans d10)
         | (refine step_append_lies _ (by rfl) _ _ 23 (by rfl) (C + 1) 64 i64 _ 3 32 Tryz.underlying23 HI.out.1 HI.out.2.1 HI.out.2.2.1 HI.out.2.2.2 rfl (by omega) v ps.length (cellsQ ps) (by rfl) ((O6.out).alloc _) ⟨w6.heap.size, 0, none⟩ 1 1 (cellsQ [(⟨ya, yn, yc⟩, ⟨nm, t, cl⟩)]) (by rfl) (by rfl) (one_qn w6 ⟨ya, yn, yc⟩ ⟨nm, t, cl⟩) (cellsQ_one _) (by omega) (by simp only [maxLen]; omega) (by omega) (by simp; omega) (w6.heap.size + 1) (by simp) ?_; intro g cap w7 h5 h6 hat hlt7; have H5 := Lib.hid h5; have H56 := Lib.hid h6; have HAT := Lib.hid hat; have H7 := Lib.hid (H7A.out w6 _ w7 HC.out.1 HC.out.2.2 (newq_below w6 _) h6); have u10 : w7.cell? ⟨M, 10, none⟩ = some v := (box_cell H7.out.box 10 _ rfl); have uz : w7.frozen? ⟨M, 10, none⟩ = false := (box_frozen H7.out.box 10); have l7 : M < w7.heap.size := box_lt H7.out.box; clear h5 h6 hat)
         | fail)
       all_goals
         have HV8 : Hid (Ms (⟨w, R, M, C, r, b, o, n, c, zs, I, F, C2, C3, C4, C5⟩ : Gm) (w7.setCell ⟨M, 10, none⟩ (.slice (some ⟨g, 0, none⟩) (ps.length + 1) cap)) (.slice (some ⟨g, 0, none⟩) (ps.length + 1) cap) (fun _ => .slice none 0 0) q2) := H7.out.setQ HGK.out _
         have HO8 : Hid (OwQ (C + 1) (w7.setCell ⟨M, 10, none⟩ (.slice (some ⟨g, 0, none⟩) (ps.length + 1) cap)) (.slice (some ⟨g, 0, none⟩) (ps.length + 1) cap) (pre ++ [⟨nm, t, cl⟩])) := by
           have hp := OwQ.pushG (v' := .slice (some ⟨g, 0, none⟩) (ps.length + 1) cap) HP.out.2 HPO.out hx0 hrC (show QOwx wr.heap.size w6 ⟨ya, yn, yc⟩ ⟨nm, t, cl⟩ from HC.out.2.1) (newq_below w6 _) HC.out.2.2 H5.out H56.out (by rcases HAT.out with h | h; exact .inl h.symm; exact .inr (by rw [h]; simp [Value.ownBlock]))
           rw [HP.out.1] at hp
           exact hp.keep (Nat.le_of_eq (by simp [World.setCell])) (fun j h1 _ => Below.heap_setCell w7 _ _ j (by have := HMC.out; simp; omega))
         generalize w7.setCell ⟨M, 10, none⟩ (.slice (some ⟨g, 0, none⟩) (ps.length + 1) cap) = w8 at *
         go_wp2_with fail
         exact ⟨⟨k + 1, q2, _, _, by omega, by go_num, by simp [hpl], HV8.out, HO8.out, HGS.out⟩, by simp [intOf]; omega⟩
   · have hng : ¬ (k : Int) < (C2 : Int) := by omega
     have HGX : Hid (G = FQ pre q) := by
       have := HW.out.2.2
       rw [show C2 - k = 0 by omega, Mny.zero] at this
       exact this
     have KSec := fun W => Lib.hid (sections_any M W)
     go_wp2_with fail
     refine (KSec _).out.mono ?_
     rintro e w7 ⟨rfl, H7⟩
     have HM7 : Hid (Ms (⟨w, R, M, C, r, b, o, n, c, zs, I, F, C2, C3, C4, C5⟩ : Gm) w7 v (fun _ => .slice none 0 0) q) := HW.out.1.below HGK.out H7.out
     have HS7 : Hid (Stb (C + 1) w7.heap.size (Dn (C + 1) v pre (fun _ => .slice none 0 0) (fun _ => []) 0) w7) := by
       have := Stb.ofQ (HW.out.2.1.stays H7.out)
       exact ⟨this.1, fun w' hs hb => ⟨this.2 w' hs hb, fun i hi => absurd hi (Nat.not_lt_zero i)⟩⟩
     have HGR : Hid (G = RSf zs pre (cs3 C3 C4 C5) 3 (fun _ => []) q) := by
       show G = _
       rw [HGX.out, HFQ.out]
     clear HW HGX H7 lM hx0
     go_wp2_with fail
     go_loopw [25] (fun z wr => ∃ (j q : Nat) (vs : Nat -> Value) (ls : Nat -> List Rec) (S : Nat), j <= 3 /\ z = .int .i64 (j : Int) /\ Hid (Ms (⟨w, R, M, C, r, b, o, n, c, zs, I, F, C2, C3, C4, C5⟩ : Gm) wr v vs q /\ Stb (C + 1) S (Dn (C + 1) v pre vs ls j) wr /\ (∀ i, j <= i -> vs i = .slice none 0 0) /\ G = RSf zs pre (cs3 C3 C4 C5) (3 - j) ls q)) (fun z _ => 3 - (intOf z).toNat)
     case atStart => exact ⟨0, q, _, _, _, by omega, rfl, HM7.out, HS7.out, fun _ _ => rfl, HGR.out⟩
     case round =>
       obtain ⟨j, q, vs, ls, S, hj, rfl, HW⟩ := hrel
       clear HM7 HS7 HGR
       by_cases hlt3 : j < 3
       · have h3 : (j : Int) < 3 := by omega
         have hix := ixS M j hlt3
         have hcn : wr.cell? ⟨C, 1 + j, none⟩ = some (.int .i64 (cs3 C3 C4 C5 j : Int)) := HW.out.1.count j hlt3
         have lC : C < wr.heap.size := box_lt HW.out.1.cnt
         have hN : cs3 C3 C4 C5 j <= 512 := by unfold cs3; split; omega; split <;> omega
         obtain ⟨FF, HFF⟩ : ∃ FF : List Rec -> Nat -> Option ((List Qn × List Rec × List Rec × List Rec) × Nat), Hid (FF = fun a q => RSf zs pre (cs3 C3 C4 C5) (2 - j) (upd ls j a) q) := ⟨_, rfl⟩
         have HGJ : Hid (G = Mny (grec zs) FF (cs3 C3 C4 C5 j) [] q) := by
           have := HW.out.2.2.2
           rw [show 3 - j = (2 - j) + 1 by omega] at this
           simp only [RSf] at this
           rw [show 2 - (2 - j) = j by omega] at this
           rw [HFF.out]
           exact this
         generalize cs3 C3 C4 C5 j = N at *
         have hj0 : (0 : Int) <= 1 + (j : Int) := by omega
         have hj4 : 1 + (j : Int) < 4 := by omega
         have hjn : (1 + (j : Int)).toNat = 1 + j := by omega
         have hjw : IntKind.i64.wrap (1 + (j : Int)) = 1 + (j : Int) := wrap_in (by omega) (by omega)
         go_wp2_with fail
         have HSo : Hid (S <= wr.heap.size) := HW.out.2.1.1
         obtain ⟨wo, hwo⟩ : ∃ z, z = wr := ⟨_, rfl⟩
         subst hwo
         obtain ⟨B1, hB1⟩ : ∃ B1, B1 = wo.heap.size := ⟨_, rfl⟩
         have HB1 : Hid (B1 = wo.heap.size /\ C + 1 <= B1 /\ S <= B1) := ⟨hB1, by rw [hB1]; exact HW.out.1.sz, by rw [hB1]; exact HSo.out⟩
         clear hB1 hcn
         go_loopw [33] (fun z wr => ∃ (k q : Nat) (vs' : Nat -> Value) (rl : List Rec), k <= N /\ z = .int .i64 (k : Int) /\ rl.length = k /\ Hid (Ms (⟨w, R, M, C, r, b, o, n, c, zs, I, F, C2, C3, C4, C5⟩ : Gm) wr v vs' q /\ (∀ i, i ≠ j -> vs' i = vs i) /\ OwR B1 wr (vs' j) rl /\ Stb (C + 1) S (Dn (C + 1) v pre vs ls j) wr /\ B1 <= wr.heap.size /\ G = Mny (grec zs) FF (N - k) rl q)) (fun z _ => N - (intOf z).toNat)
         case atStart => exact ⟨0, q, vs, [], Nat.zero_le _, rfl, rfl, HW.out.1, fun _ _ => rfl, (by rw [HW.out.2.2.1 j (Nat.le_refl _)]; exact OwR.nil' _ _), HW.out.2.1, Nat.le_of_eq HB1.out.1, HGJ.out⟩
         case round =>
           obtain ⟨k, q, vs', rl, hk, rfl, hrl, HK⟩ := hrel
           have lM : M < wr.heap.size := box_lt HK.out.1.box
           have hx0 : B1 <= wr.heap.size := HK.out.2.2.2.2.1
           have hCB : C + 1 <= B1 := HB1.out.2.1
           obtain ⟨u, hu⟩ : ∃ u, u = vs' j := ⟨_, rfl⟩
           have HU := Lib.hid hu
           by_cases hlt : k < N
           · have hlt' : (k : Int) < (N : Int) := by omega
             have e1 : N - k = (N - (k + 1)) + 1 := by omega
             have c10 : wr.drew.cell? ⟨M, 11 + j, none⟩ = some u := by rw [hu]; exact HK.out.1.cell j hlt3
             have HRd := Lib.hid (HK.out.1.rdr.below ((Below.refl wr.heap.size wr).drew))
             clear hu
             cases hgr : grec zs q with
             | none =>
               have HGN : Hid (G = none) := by
                 have := HK.out.2.2.2.2.2
                 rw [e1] at this
                 exact this.trans (Mny.none hgr)
               have KC := Lib.hid (rrec_no r b o n c zs q wr.drew HRd.out h1 hgr)
               have HGr := Lib.hid HK.out.1.gr
               go_wp2_with fail
               go_region_dies
               all_goals (refine KC.out.mono ?_; rintro e w6 ⟨rfl, H6⟩; go_wp2; exact ⟨rfl, RmG.dies HGN.out (grown_trans HGr.out (wr_drew H6.out))⟩)
             | some x =>
               have HGS : Hid (G = Mny (grec zs) FF (N - (k + 1)) (rl ++ [x.1]) x.2) := by
                 have := HK.out.2.2.2.2.2
                 rw [e1] at this
                 exact this.trans (Mny.some hgr)
               have KC : Hid (Calls Tryz.prog 101 #[.pointer (some ⟨r, 0, none⟩)] wr.drew fun e w' => ∃ y : RA, e = .returned (.agg #[.slice y.o.a y.o.n y.o.c, .int .u16 x.1.t, .int .u16 x.1.cl, .int .u32 x.1.tt, .slice y.d.p1.a y.d.p1.n y.d.p1.c, .slice y.d.p2.a y.d.p2.n y.d.p2.c, .slice y.d.p3.a y.d.p3.n y.d.p3.c, .slice y.d.p4.a y.d.p4.n y.d.p4.c]) /\ Hid (Rdr w' r (some ⟨b, o, none⟩) n c zs x.2 /\ ROwx wr.heap.size w' y x.1 /\ wr.grownBy w' (some r))) := (rrec_yes r b o n c zs q x wr.drew HRd.out h1 hgr).mono fun e w' hh => by
                 obtain ⟨s, e5, H5⟩ := hh
                 exact ⟨s, e5, H5.out.1, ⟨H5.out.2.1, H5.out.2.2.1⟩, wr_drew H5.out.2.2.2⟩
               obtain ⟨⟨ow, t, cl, tt, d⟩, q2⟩ := x
               simp only at KC HGS
               obtain ⟨ps, hp1, hp2, hp3⟩ := HK.out.2.2.1
               rw [<- HU.out] at hp2 hp3
               have hpk : ps.length = k := by rw [<- hrl, <- hp1]; simp
               have HP : Hid (ps.map (·.2) = rl /\ ∀ p ∈ ps, RfR B1 wr u.ownBlock p.1 p.2) := ⟨hp1, hp3⟩
               have HPO : Hid (wr.ownsRow B1 61 8 u ps.length (cellsR ps)) := hp2
               have hbnd : ps.length <= 512 := by omega
               have HPK := Lib.hid hpk
               have HML := Lib.hid HK.out.1
               have HVI := Lib.hid HK.out.2.1
               have HST := Lib.hid HK.out.2.2.2.1
               have hrC : r < B1 := by have := HMC.out; omega
               have H6A : Hid (∀ W : World, wr.grownBy W (some r) -> W.cell? ⟨M, 11 + j, none⟩ = some u /\ B1 <= W.heap.size /\ M < W.heap.size /\ W.ownsRow B1 61 8 u ps.length (cellsR ps)) := fun W hg => ⟨(World.cell?_of_block (w := wr) (a := ⟨M, 11 + j, none⟩) (hg.block M lM (fun e => by injection e with e; omega))).trans (by rw [HU.out]; exact HML.out.cell j hlt3), Nat.le_trans hx0 hg.size, Nat.lt_of_lt_of_le lM hg.size, ownsRow_keep HPO.out (fun j h1 h2 => hg.block j h2 (fun e => by injection e with e; omega))⟩
               have H7A : Hid (∀ W W6 W7 : World, Rdr W r (some ⟨b, o, none⟩) n c zs q2 -> wr.grownBy W (some r) -> Below W.heap.size W W6 -> W6.grownBy W7 u.ownBlock -> Ms (⟨w, R, M, C, r, b, o, n, c, zs, I, F, C2, C3, C4, C5⟩ : Gm) W7 v vs' q2) := fun W W6 W7 g1 g2 g3 g4 => HML.out.push HGK.out g1 g2 g3 g4 (fun j ej => Nat.le_trans hCB (HPO.out.lt j ej).1)
               clear hp1 hp2 hp3 hpk HK
               go_wp2_with fail
               go_region_law (first
                 | (go_simp; go_at_call 101; refine KC.out.mono ?_; rintro e w6 ⟨⟨⟨ya, yn, yc⟩, ⟨⟨a1, n1, c1⟩, ⟨a2, n2, c2⟩, ⟨a3, n3, c3⟩, ⟨a4, n4, c4⟩⟩⟩, rfl, HC⟩; obtain ⟨d10, l6, m6, o6⟩ := H6A.out w6 HC.out.2.2; have O6 := Lib.hid o6; clear o6; have d11 : (w6.alloc (.cells #[.slice ya yn yc, .int .u16 (t : Int), .int .u16 (cl : Int), .int .u32 (tt : Int), .slice a1 n1 c1, .slice a2 n2 c2, .slice a3 n3 c3, .slice a4 n4 c4] 61)).cell? ⟨M, 11 + j, none⟩ = some u := ((newq_below w6 _).cell (p := ⟨M, 11 + j, none⟩) m6).trans d10)
                 | (refine step_append_lies _ (by rfl) _ _ 24 (by rfl) B1 61 i61 _ 8 128 Tryz.underlying24 HJ.out.1 HJ.out.2.1 HJ.out.2.2.1 HJ.out.2.2.2 rfl (by omega) u ps.length (cellsR ps) (by rfl) ((O6.out).alloc _) ⟨w6.heap.size, 0, none⟩ 1 1 (cellsR [(⟨⟨ya, yn, yc⟩, ⟨⟨a1, n1, c1⟩, ⟨a2, n2, c2⟩, ⟨a3, n3, c3⟩, ⟨a4, n4, c4⟩⟩⟩, ⟨ow, t, cl, tt, d⟩)]) (by rfl) (by rfl) (one_rec w6 ⟨⟨ya, yn, yc⟩, ⟨⟨a1, n1, c1⟩, ⟨a2, n2, c2⟩, ⟨a3, n3, c3⟩, ⟨a4, n4, c4⟩⟩⟩ ⟨ow, t, cl, tt, d⟩) (cellsR_one _) (by omega) (by simp only [maxLen]; omega) (by omega) (by simp; omega) (w6.heap.size + 1) (by simp) ?_; intro g cap w7 h5 h6 hat hlt7; have H5 := Lib.hid h5; have H56 := Lib.hid h6; have HAT := Lib.hid hat; have H7 := Lib.hid (H7A.out w6 _ w7 HC.out.1 HC.out.2.2 (newq_below w6 _) h6); have u10 : w7.cell? ⟨M, 11 + j, none⟩ = some u := (by rw [HU.out]; exact H7.out.cell j hlt3); have uz : w7.frozen? ⟨M, 11 + j, none⟩ = false := (box_frozen H7.out.box (11 + j)); have l7 : M < w7.heap.size := box_lt H7.out.box; clear h5 h6 hat)
                 | fail)
               all_goals
                 have HV8 : Hid (Ms (⟨w, R, M, C, r, b, o, n, c, zs, I, F, C2, C3, C4, C5⟩ : Gm) (w7.setCell ⟨M, 11 + j, none⟩ (.slice (some ⟨g, 0, none⟩) (ps.length + 1) cap)) v (upd vs' j (.slice (some ⟨g, 0, none⟩) (ps.length + 1) cap)) q2) := H7.out.setR HGK.out j hlt3 _
                 have HO8 : Hid (OwR B1 (w7.setCell ⟨M, 11 + j, none⟩ (.slice (some ⟨g, 0, none⟩) (ps.length + 1) cap)) (.slice (some ⟨g, 0, none⟩) (ps.length + 1) cap) (rl ++ [⟨ow, t, cl, tt, d⟩])) := by
                   have hp := OwR.pushG (v' := (.slice (some ⟨g, 0, none⟩) (ps.length + 1) cap)) HP.out.2 HPO.out hx0 hrC (show ROwx wr.heap.size w6 ⟨⟨ya, yn, yc⟩, ⟨⟨a1, n1, c1⟩, ⟨a2, n2, c2⟩, ⟨a3, n3, c3⟩, ⟨a4, n4, c4⟩⟩⟩ ⟨ow, t, cl, tt, d⟩ from HC.out.2.1) (newq_below w6 _) HC.out.2.2 H5.out H56.out (by rcases HAT.out with h | h; exact .inl h.symm; exact .inr (by rw [h]; simp [Value.ownBlock]))
                   rw [HP.out.1] at hp
                   exact hp.keep (Nat.le_of_eq (by simp [World.setCell])) (fun j h1 _ => Below.heap_setCell w7 _ _ j (by have := HMC.out; simp; omega))
                 have HS8 : Hid (Stb (C + 1) S (Dn (C + 1) v pre vs ls j) (w7.setCell ⟨M, 11 + j, none⟩ (.slice (some ⟨g, 0, none⟩) (ps.length + 1) cap)) /\ B1 <= (w7.setCell ⟨M, 11 + j, none⟩ (.slice (some ⟨g, 0, none⟩) (ps.length + 1) cap)).heap.size) := by
                   have z1 := HC.out.2.2.size
                   have z2 := (newq_below w6 (.cells #[.slice ya yn yc, .int .u16 (t : Int), .int .u16 (cl : Int), .int .u32 (tt : Int), .slice a1 n1 c1, .slice a2 n2 c2, .slice a3 n3 c3, .slice a4 n4 c4] 61)).size
                   have z3 := H56.out.size
                   have z4 : (w7.setCell ⟨M, 11 + j, none⟩ (.slice (some ⟨g, 0, none⟩) (ps.length + 1) cap)).heap.size = w7.heap.size := by simp [World.setCell]
                   have z5 := HB1.out.2.2
                   have z6 := HMC.out
                   have z7 : (w6.alloc (.cells #[.slice ya yn yc, .int .u16 (t : Int), .int .u16 (cl : Int), .int .u32 (tt : Int), .slice a1 n1 c1, .slice a2 n2 c2, .slice a3 n3 c3, .slice a4 n4 c4] 61)).heap.size = w6.heap.size + 1 := World.size_alloc _ _
                   refine ⟨HST.out.go (by rw [z4]; exact Nat.le_trans z1 (Nat.le_trans z2 z3)) (fun x hx1 hx2 => ?_), by rw [z4]; exact Nat.le_trans hx0 (Nat.le_trans z1 (Nat.le_trans z2 z3))⟩
                   rw [Below.heap_setCell w7 _ _ x (show x ≠ M by omega)]
                   exact (H56.out.block x (by omega) (fun e => by have := (HPO.out.lt x e.symm).1; omega)).trans (((newq_below w6 _).block x (by omega)).trans (HC.out.2.2.block x (by omega) (fun e => by injection e with e; omega)))
                 generalize w7.setCell ⟨M, 11 + j, none⟩ (.slice (some ⟨g, 0, none⟩) (ps.length + 1) cap) = w8 at *
                 go_wp2_with fail
                 exact ⟨⟨k + 1, q2, _, _, by omega, by go_num, by simp [hrl], HV8.out, (fun i hi => by unfold upd; rw [if_neg hi]; exact HVI.out i hi), (by unfold upd; rw [if_pos rfl]; exact HO8.out), HS8.out.1, HS8.out.2, HGS.out⟩, by simp [intOf]; omega⟩
           · have hng2 : ¬ (k : Int) < (N : Int) := by omega
             have HGX : Hid (G = RSf zs pre (cs3 C3 C4 C5) (3 - (j + 1)) (upd ls j rl) q) := by
               have := HK.out.2.2.2.2.2
               rw [show N - k = 0 by omega, Mny.zero, HFF.out] at this
               rw [show 3 - (j + 1) = 2 - j by omega]
               exact this
             have HDN := Lib.hid (Dn.next HK.out.2.2.2.1 HK.out.2.1 HK.out.2.2.1 HB1.out.2.1)
             have HNL : Hid (∀ i, j + 1 <= i -> vs' i = .slice none 0 0) := fun i hi => (HK.out.2.1 i (by omega)).trans (HW.out.2.2.1 i (by omega))
             have HML := Lib.hid HK.out.1
             clear hu HK
             go_wp2_with fail
             exact ⟨⟨j + 1, q, _, _, _, by omega, by go_num, HML.out, HDN.out, HNL.out, HGX.out⟩, by simp [intOf]; omega⟩
       · have hng3 : ¬ (j : Int) < 3 := by omega
         have HGE : Hid (G = some ((pre, ls 0, ls 1, ls 2), q)) := by
           have := HW.out.2.2.2
           rw [show 3 - j = 0 by omega] at this
           exact this
         have c0 : wr.cell? ⟨r, 0, none⟩ = some (.slice (some ⟨b, o, none⟩) n c) := box_cell HW.out.1.rdr.box 0 _ rfl
         have c1 : wr.cell? ⟨r, 1, none⟩ = some (.int .i64 (q : Int)) := box_cell HW.out.1.rdr.box 1 _ rfl
         have hlt : r < wr.heap.size := box_lt HW.out.1.rdr.box
         by_cases hq : n = q
         · subst hq
           go_wp2_with fail
           go_quiet (first
             | (go_at_call 102; exact Calls.quiet_of_same (KY _).out))
           have HB9 := Lib.hid (below_dn wr nq)
           have HM9 := Lib.hid (HW.out.1.below HGK.out HB9.out)
           have HD9 : Hid (Dn (C + 1) v pre vs ls 3 (wr.drewN nq)) := by
             have := (HW.out.2.1.go (w' := wr.drewN nq) (Nat.le_refl _) (fun _ _ _ => rfl)).get
             rw [show j = 3 by omega] at this
             exact this
           generalize wr.drewN nq = w9 at *
           clear c0 c1 hlt HW
           obtain ⟨aq, cq, hv, _⟩ := HD9.out.1.rd
           obtain ⟨ax, cx, hv0, _⟩ := (HD9.out.2 0 (by omega)).rd
           obtain ⟨ay, cy, hv1, _⟩ := (HD9.out.2 1 (by omega)).rd
           obtain ⟨az, cz, hv2, _⟩ := (HD9.out.2 2 (by omega)).rd
           have HVV : Hid (v = .slice aq pre.length cq /\ vs 0 = .slice ax (ls 0).length cx /\ vs 1 = .slice ay (ls 1).length cy /\ vs 2 = .slice az (ls 2).length cz) := ⟨hv, hv0, hv1, hv2⟩
           clear hv hv0 hv1 hv2
           obtain ⟨lq, hlq⟩ : ∃ l, l = pre.length := ⟨_, rfl⟩
           obtain ⟨lx, hlx⟩ : ∃ l, l = (ls 0).length := ⟨_, rfl⟩
           obtain ⟨ly, hly⟩ : ∃ l, l = (ls 1).length := ⟨_, rfl⟩
           obtain ⟨lz, hlz⟩ : ∃ l, l = (ls 2).length := ⟨_, rfl⟩
           rw [<- hlq, <- hlx, <- hly, <- hlz] at HVV
           clear hlq hlx hly hlz
           have m0 : w9.cell? ⟨M, 0, none⟩ = some (.int .u16 (I : Int)) := box_cell HM9.out.box 0 _ rfl
           have m1 : w9.cell? ⟨M, 1, none⟩ = some (.bool (unfl F 32768)) := box_cell HM9.out.box 1 _ rfl
           have m2 : w9.cell? ⟨M, 2, none⟩ = some (.int .i64 (unop F : Nat)) := box_cell HM9.out.box 2 _ rfl
           have m3 : w9.cell? ⟨M, 3, none⟩ = some (.bool (unfl F 1024)) := box_cell HM9.out.box 3 _ rfl
           have m4 : w9.cell? ⟨M, 4, none⟩ = some (.bool (unfl F 512)) := box_cell HM9.out.box 4 _ rfl
           have m5 : w9.cell? ⟨M, 5, none⟩ = some (.bool (unfl F 256)) := box_cell HM9.out.box 5 _ rfl
           have m6 : w9.cell? ⟨M, 6, none⟩ = some (.bool (unfl F 128)) := box_cell HM9.out.box 6 _ rfl
           have m7 : w9.cell? ⟨M, 7, none⟩ = some (.bool (unfl F 32)) := box_cell HM9.out.box 7 _ rfl
           have m8 : w9.cell? ⟨M, 8, none⟩ = some (.bool (unfl F 16)) := box_cell HM9.out.box 8 _ rfl
           have m9 : w9.cell? ⟨M, 9, none⟩ = some (.int .i64 (unrc F : Nat)) := box_cell HM9.out.box 9 _ rfl
           have m10 : w9.cell? ⟨M, 10, none⟩ = some (.slice aq lq cq) := (box_cell HM9.out.box 10 _ rfl).trans (congrArg some HVV.out.1)
           have m11 : w9.cell? ⟨M, 11, none⟩ = some (.slice ax lx cx) := (box_cell HM9.out.box 11 _ rfl).trans (congrArg some HVV.out.2.1)
           have m12 : w9.cell? ⟨M, 12, none⟩ = some (.slice ay ly cy) := (box_cell HM9.out.box 12 _ rfl).trans (congrArg some HVV.out.2.2.1)
           have m13 : w9.cell? ⟨M, 13, none⟩ = some (.slice az lz cz) := (box_cell HM9.out.box 13 _ rfl).trans (congrArg some HVV.out.2.2.2)
           have z0 : w9.cell? ⟨R, 0, none⟩ = some (.int .u16 0) := box_cell HM9.out.res 0 _ rfl
           have f0 : w9.frozen? ⟨R, 0, none⟩ = false := box_frozen HM9.out.res 0
           have z1 : w9.cell? ⟨R, 1, none⟩ = some (.bool false) := box_cell HM9.out.res 1 _ rfl
           have f1 : w9.frozen? ⟨R, 1, none⟩ = false := box_frozen HM9.out.res 1
           have z2 : w9.cell? ⟨R, 2, none⟩ = some (.int .i64 0) := box_cell HM9.out.res 2 _ rfl
           have f2 : w9.frozen? ⟨R, 2, none⟩ = false := box_frozen HM9.out.res 2
           have z3 : w9.cell? ⟨R, 3, none⟩ = some (.bool false) := box_cell HM9.out.res 3 _ rfl
           have f3 : w9.frozen? ⟨R, 3, none⟩ = false := box_frozen HM9.out.res 3
           have z4 : w9.cell? ⟨R, 4, none⟩ = some (.bool false) := box_cell HM9.out.res 4 _ rfl
           have f4 : w9.frozen? ⟨R, 4, none⟩ = false := box_frozen HM9.out.res 4
           have z5 : w9.cell? ⟨R, 5, none⟩ = some (.bool false) := box_cell HM9.out.res 5 _ rfl
           have f5 : w9.frozen? ⟨R, 5, none⟩ = false := box_frozen HM9.out.res 5
           have z6 : w9.cell? ⟨R, 6, none⟩ = some (.bool false) := box_cell HM9.out.res 6 _ rfl
           have f6 : w9.frozen? ⟨R, 6, none⟩ = false := box_frozen HM9.out.res 6
           have z7 : w9.cell? ⟨R, 7, none⟩ = some (.bool false) := box_cell HM9.out.res 7 _ rfl
           have f7 : w9.frozen? ⟨R, 7, none⟩ = false := box_frozen HM9.out.res 7
           have z8 : w9.cell? ⟨R, 8, none⟩ = some (.bool false) := box_cell HM9.out.res 8 _ rfl
           have f8 : w9.frozen? ⟨R, 8, none⟩ = false := box_frozen HM9.out.res 8
           have z9 : w9.cell? ⟨R, 9, none⟩ = some (.int .i64 0) := box_cell HM9.out.res 9 _ rfl
           have f9 : w9.frozen? ⟨R, 9, none⟩ = false := box_frozen HM9.out.res 9
           have z10 : w9.cell? ⟨R, 10, none⟩ = some (.slice none 0 0) := box_cell HM9.out.res 10 _ rfl
           have f10 : w9.frozen? ⟨R, 10, none⟩ = false := box_frozen HM9.out.res 10
           have z11 : w9.cell? ⟨R, 11, none⟩ = some (.slice none 0 0) := box_cell HM9.out.res 11 _ rfl
           have f11 : w9.frozen? ⟨R, 11, none⟩ = false := box_frozen HM9.out.res 11
           have z12 : w9.cell? ⟨R, 12, none⟩ = some (.slice none 0 0) := box_cell HM9.out.res 12 _ rfl
           have f12 : w9.frozen? ⟨R, 12, none⟩ = false := box_frozen HM9.out.res 12
           have z13 : w9.cell? ⟨R, 13, none⟩ = some (.slice none 0 0) := box_cell HM9.out.res 13 _ rfl
           have f13 : w9.frozen? ⟨R, 13, none⟩ = false := box_frozen HM9.out.res 13
           have l1 := box_lt HM9.out.box
           have l2 := box_lt HM9.out.res
           have ne1 : ¬ M = R := by omega
           have ne2 : ¬ R = M := by omega
           simp only at l1 l2
           go_wp2_with fail
           have u1 : Hid ((((((((((((((((w9.setCell ⟨R, 0, none⟩ (.int .u16 (I : Int))).setCell ⟨R, 1, none⟩ (.bool (unfl F 32768))).setCell ⟨R, 2, none⟩ (.int .i64 (unop F : Nat))).setCell ⟨R, 3, none⟩ (.bool (unfl F 1024))).setCell ⟨R, 4, none⟩ (.bool (unfl F 512))).setCell ⟨R, 5, none⟩ (.bool (unfl F 256))).setCell ⟨R, 6, none⟩ (.bool (unfl F 128))).setCell ⟨R, 7, none⟩ (.bool (unfl F 32))).setCell ⟨R, 8, none⟩ (.bool (unfl F 16))).setCell ⟨R, 9, none⟩ (.int .i64 (unrc F : Nat))).setCell ⟨R, 10, none⟩ (.slice aq lq cq)).setCell ⟨R, 11, none⟩ (.slice ax lx cx)).setCell ⟨R, 12, none⟩ (.slice ay ly cy)).setCell ⟨R, 13, none⟩ (.slice az lz cz))).heap[R]? = some (.cells #[.int .u16 (I : Int), .bool (unfl F 32768), .int .i64 (unop F : Nat), .bool (unfl F 1024), .bool (unfl F 512), .bool (unfl F 256), .bool (unfl F 128), .bool (unfl F 32), .bool (unfl F 16), .int .i64 (unrc F : Nat), .slice aq lq cq, .slice ax lx cx, .slice ay ly cy, .slice az lz cz] 26)) := put14 HM9.out.res (.int .u16 (I : Int)) (.bool (unfl F 32768)) (.int .i64 (unop F : Nat)) (.bool (unfl F 1024)) (.bool (unfl F 512)) (.bool (unfl F 256)) (.bool (unfl F 128)) (.bool (unfl F 32)) (.bool (unfl F 16)) (.int .i64 (unrc F : Nat)) (.slice aq lq cq) (.slice ax lx cx) (.slice ay ly cy) (.slice az lz cz)
           have u2 : Hid (w9.grownBy (((((((((((((((w9.setCell ⟨R, 0, none⟩ (.int .u16 (I : Int))).setCell ⟨R, 1, none⟩ (.bool (unfl F 32768))).setCell ⟨R, 2, none⟩ (.int .i64 (unop F : Nat))).setCell ⟨R, 3, none⟩ (.bool (unfl F 1024))).setCell ⟨R, 4, none⟩ (.bool (unfl F 512))).setCell ⟨R, 5, none⟩ (.bool (unfl F 256))).setCell ⟨R, 6, none⟩ (.bool (unfl F 128))).setCell ⟨R, 7, none⟩ (.bool (unfl F 32))).setCell ⟨R, 8, none⟩ (.bool (unfl F 16))).setCell ⟨R, 9, none⟩ (.int .i64 (unrc F : Nat))).setCell ⟨R, 10, none⟩ (.slice aq lq cq)).setCell ⟨R, 11, none⟩ (.slice ax lx cx)).setCell ⟨R, 12, none⟩ (.slice ay ly cy)).setCell ⟨R, 13, none⟩ (.slice az lz cz))) (some R)) := ⟨(put14_below w9 R (.int .u16 (I : Int)) (.bool (unfl F 32768)) (.int .i64 (unop F : Nat)) (.bool (unfl F 1024)) (.bool (unfl F 512)) (.bool (unfl F 256)) (.bool (unfl F 128)) (.bool (unfl F 32)) (.bool (unfl F 16)) (.int .i64 (unrc F : Nat)) (.slice aq lq cq) (.slice ax lx cx) (.slice ay ly cy) (.slice az lz cz)).os, (put14_below w9 R (.int .u16 (I : Int)) (.bool (unfl F 32768)) (.int .i64 (unop F : Nat)) (.bool (unfl F 1024)) (.bool (unfl F 512)) (.bool (unfl F 256)) (.bool (unfl F 128)) (.bool (unfl F 32)) (.bool (unfl F 16)) (.int .i64 (unrc F : Nat)) (.slice aq lq cq) (.slice ax lx cx) (.slice ay ly cy) (.slice az lz cz)).tape, (put14_below w9 R (.int .u16 (I : Int)) (.bool (unfl F 32768)) (.int .i64 (unop F : Nat)) (.bool (unfl F 1024)) (.bool (unfl F 512)) (.bool (unfl F 256)) (.bool (unfl F 128)) (.bool (unfl F 32)) (.bool (unfl F 16)) (.int .i64 (unrc F : Nat)) (.slice aq lq cq) (.slice ax lx cx) (.slice ay ly cy) (.slice az lz cz)).output, (put14_below w9 R (.int .u16 (I : Int)) (.bool (unfl F 32768)) (.int .i64 (unop F : Nat)) (.bool (unfl F 1024)) (.bool (unfl F 512)) (.bool (unfl F 256)) (.bool (unfl F 128)) (.bool (unfl F 32)) (.bool (unfl F 16)) (.int .i64 (unrc F : Nat)) (.slice aq lq cq) (.slice ax lx cx) (.slice ay ly cy) (.slice az lz cz)).size, fun j _ hne => put14_other w9 R (.int .u16 (I : Int)) (.bool (unfl F 32768)) (.int .i64 (unop F : Nat)) (.bool (unfl F 1024)) (.bool (unfl F 512)) (.bool (unfl F 256)) (.bool (unfl F 128)) (.bool (unfl F 32)) (.bool (unfl F 16)) (.int .i64 (unrc F : Nat)) (.slice aq lq cq) (.slice ax lx cx) (.slice ay ly cy) (.slice az lz cz) j (fun e => hne (by rw [e]))⟩
           clear m0 z0 f0 m1 z1 f1 m2 z2 f2 m3 z3 f3 m4 z4 f4 m5 z5 f5 m6 z6 f6 m7 z7 f7 m8 z8 f8 m9 z9 f9 m10 z10 f10 m11 z11 f11 m12 z12 f12 m13 z13 f13 l1 l2
           generalize ((((((((((((((w9.setCell ⟨R, 0, none⟩ (.int .u16 (I : Int))).setCell ⟨R, 1, none⟩ (.bool (unfl F 32768))).setCell ⟨R, 2, none⟩ (.int .i64 (unop F : Nat))).setCell ⟨R, 3, none⟩ (.bool (unfl F 1024))).setCell ⟨R, 4, none⟩ (.bool (unfl F 512))).setCell ⟨R, 5, none⟩ (.bool (unfl F 256))).setCell ⟨R, 6, none⟩ (.bool (unfl F 128))).setCell ⟨R, 7, none⟩ (.bool (unfl F 32))).setCell ⟨R, 8, none⟩ (.bool (unfl F 16))).setCell ⟨R, 9, none⟩ (.int .i64 (unrc F : Nat))).setCell ⟨R, 10, none⟩ (.slice aq lq cq)).setCell ⟨R, 11, none⟩ (.slice ax lx cx)).setCell ⟨R, 12, none⟩ (.slice ay ly cy)).setCell ⟨R, 13, none⟩ (.slice az lz cz)) = wA at *
           have y0 := box_cell u1.out 0 _ rfl
           have y1 := box_cell u1.out 1 _ rfl
           have y2 := box_cell u1.out 2 _ rfl
           have y3 := box_cell u1.out 3 _ rfl
           have y4 := box_cell u1.out 4 _ rfl
           have y5 := box_cell u1.out 5 _ rfl
           have y6 := box_cell u1.out 6 _ rfl
           have y7 := box_cell u1.out 7 _ rfl
           have y8 := box_cell u1.out 8 _ rfl
           have y9 := box_cell u1.out 9 _ rfl
           have y10 := box_cell u1.out 10 _ rfl
           have y11 := box_cell u1.out 11 _ rfl
           have y12 := box_cell u1.out 12 _ rfl
           have y13 := box_cell u1.out 13 _ rfl
           have hRC : R < C + 1 := by have := HMC.out; omega
           have HDA : Hid (Dn (C + 1) v pre vs ls 3 wA) := ⟨HD9.out.1.keep u2.out.size (fun x h1 h2 => u2.out.block x h2 (fun e => by injection e with e; omega)), fun i hi => (HD9.out.2 i hi).keep u2.out.size (fun x h1 h2 => u2.out.block x h2 (fun e => by injection e with e; omega))⟩
           have hwC : w.heap.size <= C + 1 := by have := HRR.out; omega
           have HGA : Hid (w.grownBy wA (some r)) := grown_apx HM9.out.gr u2.out (fun x e => by injection e with e; have := HRR.out; omega)
           refine bodyPost_ret (v := .agg #[.int .u16 (I : Int), .bool (unfl F 32768), .int .i64 (unop F : Nat), .bool (unfl F 1024), .bool (unfl F 512), .bool (unfl F 256), .bool (unfl F 128), .bool (unfl F 32), .bool (unfl F 16), .int .i64 (unrc F : Nat), .slice aq lq cq, .slice ax lx cx, .slice ay ly cy, .slice az lz cz]) (by simp [results, Tryz.results65, go_sem, y0, y1, y2, y3, y4, y5, y6, y7, y8, y9, y10, y11, y12, y13]) rfl ⟨fun x e e2 => ?_, fun hbad => ?_⟩
           · rw [HGE.out] at e
             cases e
             refine ⟨v, vs, by rw [HVV.out.1, HVV.out.2.1, HVV.out.2.2.1, HVV.out.2.2.2], HDA.out.1.mono hwC, (HDA.out.2 0 (by omega)).mono hwC, (HDA.out.2 1 (by omega)).mono hwC, (HDA.out.2 2 (by omega)).mono hwC, HGA.out⟩
           · exfalso
             rw [HGE.out] at hbad
             rcases hbad with hbad | ⟨x, hx, hne⟩
             · cases hbad
             · cases hx
               exact hne rfl
         · have hqi : ¬ (q : Int) = (n : Int) := by omega
           have hqj : ((q : Int) == (n : Int)) = false := by simp [hqi]
           have HGr := Lib.hid HW.out.1.gr
           go_wp2_with fail
           go_region_dies
           all_goals (refine (KNo _).out.mono ?_; rintro e1 w1 ⟨rfl, hw1⟩; subst w1; go_wp2; exact ⟨rfl, fun x e e2 => (by rw [HGE.out] at e; cases e; exact absurd e2.symm hq), fun _ => ⟨rfl, grown_trans HGr.out (grown_of ((Below.refl wr.heap.size wr).drew))⟩⟩)
end Go.Proofs.YteplffhfeoephaaGreat
namespace Go.Proofs.YteplffhfeoephaaGreat
open Go.ChangeShapes Go.WideShapes Go.ChangeAt Go.RowKit Go.Maps
theorem res_end {w : World} {B0 B1 : Nat} {v0 v1 v2 v3 v4 v5 v6 v7 v8 v9 v10 v11 v12 v13 u : Value} {t t' : TypeId} (h1 : w.heap[B0]? = some (.cells #[v0, v1, v2, v3, v4, v5, v6, v7, v8, v9, v10, v11, v12, v13] t)) (h2 : w.heap[B1]? = some (.cells #[u] t')) (hlt : B0 < B1) (x0 x1 x2 x3 x4 x5 x6 x7 x8 x9 x10 x11 x12 x13 y : Value) :
   (((((((((((((((w.setCell ⟨B0, 0, none⟩ (x0)).setCell ⟨B0, 1, none⟩ (x1)).setCell ⟨B0, 2, none⟩ (x2)).setCell ⟨B0, 3, none⟩ (x3)).setCell ⟨B0, 4, none⟩ (x4)).setCell ⟨B0, 5, none⟩ (x5)).setCell ⟨B0, 6, none⟩ (x6)).setCell ⟨B0, 7, none⟩ (x7)).setCell ⟨B0, 8, none⟩ (x8)).setCell ⟨B0, 9, none⟩ (x9)).setCell ⟨B0, 10, none⟩ (x10)).setCell ⟨B0, 11, none⟩ (x11)).setCell ⟨B0, 12, none⟩ (x12)).setCell ⟨B0, 13, none⟩ (x13)).setCell ⟨B1, 0, none⟩ y).heap[B0]? = some (.cells #[x0, x1, x2, x3, x4, x5, x6, x7, x8, x9, x10, x11, x12, x13] t) /\ (((((((((((((((w.setCell ⟨B0, 0, none⟩ (x0)).setCell ⟨B0, 1, none⟩ (x1)).setCell ⟨B0, 2, none⟩ (x2)).setCell ⟨B0, 3, none⟩ (x3)).setCell ⟨B0, 4, none⟩ (x4)).setCell ⟨B0, 5, none⟩ (x5)).setCell ⟨B0, 6, none⟩ (x6)).setCell ⟨B0, 7, none⟩ (x7)).setCell ⟨B0, 8, none⟩ (x8)).setCell ⟨B0, 9, none⟩ (x9)).setCell ⟨B0, 10, none⟩ (x10)).setCell ⟨B0, 11, none⟩ (x11)).setCell ⟨B0, 12, none⟩ (x12)).setCell ⟨B0, 13, none⟩ (x13)).setCell ⟨B1, 0, none⟩ y).heap[B1]? = some (.cells #[y] t') /\ Below B0 w (((((((((((((((w.setCell ⟨B0, 0, none⟩ (x0)).setCell ⟨B0, 1, none⟩ (x1)).setCell ⟨B0, 2, none⟩ (x2)).setCell ⟨B0, 3, none⟩ (x3)).setCell ⟨B0, 4, none⟩ (x4)).setCell ⟨B0, 5, none⟩ (x5)).setCell ⟨B0, 6, none⟩ (x6)).setCell ⟨B0, 7, none⟩ (x7)).setCell ⟨B0, 8, none⟩ (x8)).setCell ⟨B0, 9, none⟩ (x9)).setCell ⟨B0, 10, none⟩ (x10)).setCell ⟨B0, 11, none⟩ (x11)).setCell ⟨B0, 12, none⟩ (x12)).setCell ⟨B0, 13, none⟩ (x13)).setCell ⟨B1, 0, none⟩ y) := by
 have e1 := put14 h1 x0 x1 x2 x3 x4 x5 x6 x7 x8 x9 x10 x11 x12 x13
 have e2 := put14_other w B0 x0 x1 x2 x3 x4 x5 x6 x7 x8 x9 x10 x11 x12 x13 B1 (by omega)
 have e3 := put14_below w B0 x0 x1 x2 x3 x4 x5 x6 x7 x8 x9 x10 x11 x12 x13
 generalize ((((((((((((((w.setCell ⟨B0, 0, none⟩ (x0)).setCell ⟨B0, 1, none⟩ (x1)).setCell ⟨B0, 2, none⟩ (x2)).setCell ⟨B0, 3, none⟩ (x3)).setCell ⟨B0, 4, none⟩ (x4)).setCell ⟨B0, 5, none⟩ (x5)).setCell ⟨B0, 6, none⟩ (x6)).setCell ⟨B0, 7, none⟩ (x7)).setCell ⟨B0, 8, none⟩ (x8)).setCell ⟨B0, 9, none⟩ (x9)).setCell ⟨B0, 10, none⟩ (x10)).setCell ⟨B0, 11, none⟩ (x11)).setCell ⟨B0, 12, none⟩ (x12)).setCell ⟨B0, 13, none⟩ (x13)) = w1 at *
 exact ⟨(Below.heap_setCell w1 _ _ B0 (show B0 ≠ B1 by omega)).trans e1, heap_set (e2.trans h2) 0 y, e3.setCell (p := ⟨B1, 0, none⟩) (Nat.le_of_lt hlt) y⟩
set_option maxHeartbeats 1000000 in
theorem catch_idle (B0 B1 : Nat) (w : World) :
   CallsD Tryz.prog 64 #[.pointer (some ⟨B0, 0, none⟩), .pointer (some ⟨B1, 0, none⟩)] .returning w fun e u' w' => e = .returned (.tuple #[]) /\ u' = .returning /\ w' = w := by
 refine callsD_of_wpS Tryz.func64 rfl fun c₀ cs hu => ?_
 apply wpS_seq
 apply wpS_region
 simp [wpOpsS, go_sem, recoverD, hu, Tryz.ntmps64, Exit.thenS]
 refine wpS_of_wp ?_
 have et : (#[Value.pointer (some ⟨B0, 0, none⟩), Value.pointer (some ⟨B1, 0, none⟩)] ++ (Array.replicate 10 undef).setIfInBounds 3 Value.nilIface) = #[.pointer (some ⟨B0, 0, none⟩), .pointer (some ⟨B1, 0, none⟩), undef, undef, undef, Value.nilIface, undef, undef, undef, undef, undef, undef] := by rfl
 rw [et]
 clear et
 go_wp2
 cases c₀
 simp_all [bodyPostS, results, Tryz.results64]
set_option maxHeartbeats 2000000 in
theorem catch_pan (B0 B1 : Nat) (w : World) (h0 : w.heap[B0]? = some (.cells #[.int .u16 0, .bool false, .int .i64 0, .bool false, .bool false, .bool false, .bool false, .bool false, .bool false, .int .i64 0, .slice none 0 0, .slice none 0 0, .slice none 0 0, .slice none 0 0] 26)) (h1 : w.heap[B1]? = some (.cells #[.int .i64 0] 30)) (hlt : B0 < B1) :
   CallsD Tryz.prog 64 #[.pointer (some ⟨B0, 0, none⟩), .pointer (some ⟨B1, 0, none⟩)] (.panicking thrown) w fun e u' w' => e = .returned (.tuple #[]) /\ u' = .panicking [{ v := .iface 102 (.agg #[]), recovered := true }] /\ Hid (w'.heap[B0]? = some (.cells #[.int .u16 0, .bool false, .int .i64 0, .bool false, .bool false, .bool false, .bool false, .bool false, .bool false, .int .i64 0, .slice none 0 0, .slice none 0 0, .slice none 0 0, .slice none 0 0] 26) /\ w'.heap[B1]? = some (.cells #[.int .i64 8] 30) /\ Below B0 w w') := by
 unfold thrown
 have heq : ∀ W : World, (binOp .eql 20 (.iface 102 (.agg #[])) .nilIface).run Tryz.prog W = .ok (.bool false) W := fun W => by rfl
 have hta : ∀ W : World, (Instr.typeAssert (.iface 102 (.agg #[])) 20 102 true).run Tryz.prog W = .ok (.tuple #[.agg #[], .bool true]) W := fun W => by rfl
 have hn1 : ¬ B0 = B1 := by omega
 have hn2 : ¬ B1 = B0 := by omega
 have hb := newq_below w (.cells #[] 102)
 have g0 : Hid ((w.alloc (.cells #[] 102)).heap[B0]? = some (.cells #[.int .u16 0, .bool false, .int .i64 0, .bool false, .bool false, .bool false, .bool false, .bool false, .bool false, .int .i64 0, .slice none 0 0, .slice none 0 0, .slice none 0 0, .slice none 0 0] 26)) := (hb.block B0 (box_lt h0)).trans h0
 have g1 : Hid ((w.alloc (.cells #[] 102)).heap[B1]? = some (.cells #[.int .i64 0] 30)) := (hb.block B1 (box_lt h1)).trans h1
 have HB : Hid (Below w.heap.size w (w.alloc (.cells #[] 102))) := hb
 have HL : Hid (B0 < w.heap.size) := box_lt h0
 clear hb h0 h1
 refine callsD_of_wpS Tryz.func64 rfl fun c₀ cs hu => ?_
 apply wpS_seq
 apply wpS_region
 simp [wpOpsS, go_sem, recoverD, hu, Tryz.ntmps64, Exit.thenS]
 refine wpS_of_wp ?_
 have et : (#[Value.pointer (some ⟨B0, 0, none⟩), Value.pointer (some ⟨B1, 0, none⟩)] ++ (Array.replicate 10 undef).setIfInBounds 3 (Value.iface 102 (Value.agg #[]))) = #[.pointer (some ⟨B0, 0, none⟩), .pointer (some ⟨B1, 0, none⟩), undef, undef, undef, (Value.iface 102 (Value.agg #[])), undef, undef, undef, undef, undef, undef] := by rfl
 rw [et]
 clear et
 go_upto_region 7 with fail
 generalize w.alloc (.cells #[] 102) = w1 at *
 have z0 : w1.cell? ⟨B0, 0, none⟩ = some (.int .u16 0) := box_cell g0.out 0 _ rfl
 have f0 := box_frozen g0.out 0
 have z1 : w1.cell? ⟨B0, 1, none⟩ = some (.bool false) := box_cell g0.out 1 _ rfl
 have f1 := box_frozen g0.out 1
 have z2 : w1.cell? ⟨B0, 2, none⟩ = some (.int .i64 0) := box_cell g0.out 2 _ rfl
 have f2 := box_frozen g0.out 2
 have z3 : w1.cell? ⟨B0, 3, none⟩ = some (.bool false) := box_cell g0.out 3 _ rfl
 have f3 := box_frozen g0.out 3
 have z4 : w1.cell? ⟨B0, 4, none⟩ = some (.bool false) := box_cell g0.out 4 _ rfl
 have f4 := box_frozen g0.out 4
 have z5 : w1.cell? ⟨B0, 5, none⟩ = some (.bool false) := box_cell g0.out 5 _ rfl
 have f5 := box_frozen g0.out 5
 have z6 : w1.cell? ⟨B0, 6, none⟩ = some (.bool false) := box_cell g0.out 6 _ rfl
 have f6 := box_frozen g0.out 6
 have z7 : w1.cell? ⟨B0, 7, none⟩ = some (.bool false) := box_cell g0.out 7 _ rfl
 have f7 := box_frozen g0.out 7
 have z8 : w1.cell? ⟨B0, 8, none⟩ = some (.bool false) := box_cell g0.out 8 _ rfl
 have f8 := box_frozen g0.out 8
 have z9 : w1.cell? ⟨B0, 9, none⟩ = some (.int .i64 0) := box_cell g0.out 9 _ rfl
 have f9 := box_frozen g0.out 9
 have z10 : w1.cell? ⟨B0, 10, none⟩ = some (.slice none 0 0) := box_cell g0.out 10 _ rfl
 have f10 := box_frozen g0.out 10
 have z11 : w1.cell? ⟨B0, 11, none⟩ = some (.slice none 0 0) := box_cell g0.out 11 _ rfl
 have f11 := box_frozen g0.out 11
 have z12 : w1.cell? ⟨B0, 12, none⟩ = some (.slice none 0 0) := box_cell g0.out 12 _ rfl
 have f12 := box_frozen g0.out 12
 have z13 : w1.cell? ⟨B0, 13, none⟩ = some (.slice none 0 0) := box_cell g0.out 13 _ rfl
 have f13 := box_frozen g0.out 13
 have y0 : w1.cell? ⟨B1, 0, none⟩ = some (.int .i64 0) := box_cell g1.out 0 _ rfl
 have fy := box_frozen g1.out 0
 have l0 := box_lt g0.out
 have l1 := box_lt g1.out
 go_wp2
 obtain ⟨u1, u2, u3⟩ := res_end g0.out g1.out hlt (.int .u16 0) (.bool false) (.int .i64 0) (.bool false) (.bool false) (.bool false) (.bool false) (.bool false) (.bool false) (.int .i64 0) (.slice none 0 0) (.slice none 0 0) (.slice none 0 0) (.slice none 0 0) (.int .i64 8)
 have HF : Hid ((((((((((((((((w1.setCell ⟨B0, 0, none⟩ (.int .u16 0)).setCell ⟨B0, 1, none⟩ (.bool false)).setCell ⟨B0, 2, none⟩ (.int .i64 0)).setCell ⟨B0, 3, none⟩ (.bool false)).setCell ⟨B0, 4, none⟩ (.bool false)).setCell ⟨B0, 5, none⟩ (.bool false)).setCell ⟨B0, 6, none⟩ (.bool false)).setCell ⟨B0, 7, none⟩ (.bool false)).setCell ⟨B0, 8, none⟩ (.bool false)).setCell ⟨B0, 9, none⟩ (.int .i64 0)).setCell ⟨B0, 10, none⟩ (.slice none 0 0)).setCell ⟨B0, 11, none⟩ (.slice none 0 0)).setCell ⟨B0, 12, none⟩ (.slice none 0 0)).setCell ⟨B0, 13, none⟩ (.slice none 0 0)).setCell ⟨B1, 0, none⟩ (.int .i64 8)).heap[B0]? = some (.cells #[.int .u16 0, .bool false, .int .i64 0, .bool false, .bool false, .bool false, .bool false, .bool false, .bool false, .int .i64 0, .slice none 0 0, .slice none 0 0, .slice none 0 0, .slice none 0 0] 26) /\ (((((((((((((((w1.setCell ⟨B0, 0, none⟩ (.int .u16 0)).setCell ⟨B0, 1, none⟩ (.bool false)).setCell ⟨B0, 2, none⟩ (.int .i64 0)).setCell ⟨B0, 3, none⟩ (.bool false)).setCell ⟨B0, 4, none⟩ (.bool false)).setCell ⟨B0, 5, none⟩ (.bool false)).setCell ⟨B0, 6, none⟩ (.bool false)).setCell ⟨B0, 7, none⟩ (.bool false)).setCell ⟨B0, 8, none⟩ (.bool false)).setCell ⟨B0, 9, none⟩ (.int .i64 0)).setCell ⟨B0, 10, none⟩ (.slice none 0 0)).setCell ⟨B0, 11, none⟩ (.slice none 0 0)).setCell ⟨B0, 12, none⟩ (.slice none 0 0)).setCell ⟨B0, 13, none⟩ (.slice none 0 0)).setCell ⟨B1, 0, none⟩ (.int .i64 8)).heap[B1]? = some (.cells #[.int .i64 8] 30) /\ Below B0 w (((((((((((((((w1.setCell ⟨B0, 0, none⟩ (.int .u16 0)).setCell ⟨B0, 1, none⟩ (.bool false)).setCell ⟨B0, 2, none⟩ (.int .i64 0)).setCell ⟨B0, 3, none⟩ (.bool false)).setCell ⟨B0, 4, none⟩ (.bool false)).setCell ⟨B0, 5, none⟩ (.bool false)).setCell ⟨B0, 6, none⟩ (.bool false)).setCell ⟨B0, 7, none⟩ (.bool false)).setCell ⟨B0, 8, none⟩ (.bool false)).setCell ⟨B0, 9, none⟩ (.int .i64 0)).setCell ⟨B0, 10, none⟩ (.slice none 0 0)).setCell ⟨B0, 11, none⟩ (.slice none 0 0)).setCell ⟨B0, 12, none⟩ (.slice none 0 0)).setCell ⟨B0, 13, none⟩ (.slice none 0 0)).setCell ⟨B1, 0, none⟩ (.int .i64 8))) := ⟨u1, u2, (HB.out.mono (Nat.le_of_lt HL.out)).trans u3⟩
 clear u1 u2 u3 z0 f0 z1 f1 z2 f2 z3 f3 z4 f4 z5 f5 z6 f6 z7 f7 z8 f8 z9 f9 z10 f10 z11 f11 z12 f12 z13 f13 y0 fy l0 l1 g0 g1 HB
 generalize (((((((((((((((w1.setCell ⟨B0, 0, none⟩ (.int .u16 0)).setCell ⟨B0, 1, none⟩ (.bool false)).setCell ⟨B0, 2, none⟩ (.int .i64 0)).setCell ⟨B0, 3, none⟩ (.bool false)).setCell ⟨B0, 4, none⟩ (.bool false)).setCell ⟨B0, 5, none⟩ (.bool false)).setCell ⟨B0, 6, none⟩ (.bool false)).setCell ⟨B0, 7, none⟩ (.bool false)).setCell ⟨B0, 8, none⟩ (.bool false)).setCell ⟨B0, 9, none⟩ (.int .i64 0)).setCell ⟨B0, 10, none⟩ (.slice none 0 0)).setCell ⟨B0, 11, none⟩ (.slice none 0 0)).setCell ⟨B0, 12, none⟩ (.slice none 0 0)).setCell ⟨B0, 13, none⟩ (.slice none 0 0)).setCell ⟨B1, 0, none⟩ (.int .i64 8)) = w9 at *
 cases c₀
 simp [bodyPostS, results, Tryz.results64]
 trace_state
 exact HF
end Go.Proofs.YteplffhfeoephaaGreat
namespace Go.Proofs.YteplffhfeoephaaGreat
open Go.ChangeShapes Go.WideShapes Go.ChangeAt Go.RowKit Go.Maps
def MOw (B : Nat) (w' : World) (x : MA) (m : Mg) : Prop := OwQ B w' (.slice x.q.a x.q.n x.q.c) m.qs /\ OwR B w' (.slice x.l1.a x.l1.n x.l1.c) m.l1 /\ OwR B w' (.slice x.l2.a x.l2.n x.l2.c) m.l2 /\ OwR B w' (.slice x.l3.a x.l3.n x.l3.c) m.l3
def RmY (r : Nat) (zs : List Int) (w : World) (m : Mg) (e : Ending) (w' : World) : Prop := ∃ x : MA, e = .returned (.agg #[.int .u16 m.h.id, .bool m.h.rs, .int .i64 m.h.op, .bool m.h.aa, .bool m.h.tc, .bool m.h.rd, .bool m.h.ra, .bool m.h.ad, .bool m.h.cd, .int .i64 m.h.rc, .slice x.q.a x.q.n x.q.c, .slice x.l1.a x.l1.n x.l1.c, .slice x.l2.a x.l2.n x.l2.c, .slice x.l3.a x.l3.n x.l3.c]) /\ Hid (MOw w.heap.size w' x m /\ w.grownBy w' (some r))
set_option maxHeartbeats 1000000 in
theorem rmsg_bad (r : Nat) (a : Option Addr) (n c : Nat) (zs : List Int) (p : Nat) (w : World) (h : Rdr w r a n c zs p) (hx : hdBad zs) :
   Calls Tryz.prog 65 #[.pointer (some ⟨r, 0, none⟩)] w fun e w' => e = .panicked thrown /\ Hid (w.grownBy w' (some r)) := by
 have hb0 : Below w.heap.size w (w.alloc (.cells #[.int .u16 0, .bool false, .int .i64 0, .bool false, .bool false, .bool false, .bool false, .bool false, .bool false, .int .i64 0, .slice none 0 0, .slice none 0 0, .slice none 0 0, .slice none 0 0] 26)) := newq_below _ _
 have K1 := Lib.hid (rhead_no r a n c zs p _ (h.below hb0) hx)
 have HB0 := Lib.hid hb0
 clear h hb0 hx
 go_enter Tryz.func65, Tryz.ntmps65
 go_wp2_with fail
 refine K1.out.mono ?_
 rintro e w1 ⟨rfl, H1⟩
 go_wp2
 exact ⟨rfl, rfl, grown_trans (grown_of HB0.out) H1.out⟩
theorem rmsg_good (r b o n c : Nat) (zs : List Int) (p : Nat) (w : World) (h : Rdr w r (some ⟨b, o, none⟩) n c zs p) (hx : ¬ hdBad zs) :
   Calls Tryz.prog 65 #[.pointer (some ⟨r, 0, none⟩)] w (RmG r n w (nv zs 0) (nv zs 1) (gbody (nv zs 2) (nv zs 3) (nv zs 4) (nv zs 5) zs 12)) := by
 have hg : ¬ (zs.length < 12 ∨ unfl (nv zs 1) 64 = true) := fun e => hx (.inl e)
 have hcnt : nv zs 2 <= 16 /\ nv zs 3 + nv zs 4 + nv zs 5 <= 512 := by
   by_cases e : nv zs 2 <= 16 /\ nv zs 3 + nv zs 4 + nv zs 5 <= 512
   · exact e
   · exact absurd (.inr e) hx
 have h1 : 1 <= n := by
   have := h.len
   by_cases e : zs.length < 12
   · exact absurd (.inl e) hg
   · omega
 exact rmsg_walk r b o n c zs p (nv zs 0) (nv zs 1) (nv zs 2) (nv zs 3) (nv zs 4) (nv zs 5) w h h1 hcnt.1 hcnt.2 (Lib.hid fun W hW => rhead_yes r b o n c zs p W hW hx) _ (Lib.hid rfl)
theorem rdr_some {w : World} {r n c p : Nat} {a : Option Addr} {zs : List Int} (h : Rdr w r a n c zs p) (h1 : 1 <= n) : ∃ b o, a = some ⟨b, o, none⟩ := by
 rcases h.rd.1 with h0 | ⟨b, o, e, _⟩
 · have := h.len; rw [h0] at this; simp at this; omega
 · exact ⟨b, o, e⟩
theorem len12 {zs : List Int} (hx : ¬ hdBad zs) : 12 <= zs.length := by
 by_cases e : zs.length < 12
 · exact absurd (.inl (.inl e)) hx
 · omega
theorem rmsg_yes (r : Nat) (a : Option Addr) (n c : Nat) (zs : List Int) (p : Nat) (m : Mg) (w : World) (h : Rdr w r a n c zs p) (hm : gmsg zs = some m) :
   Calls Tryz.prog 65 #[.pointer (some ⟨r, 0, none⟩)] w (RmY r zs w m) := by
 unfold gmsg at hm
 split at hm
 case isTrue => cases hm
 case isFalse hx =>
   have hn : 1 <= n := by have := len12 hx; have := h.len; omega
   obtain ⟨b, o, rfl⟩ := rdr_some h hn
   simp only [Option.bind_eq_some_iff] at hm
   obtain ⟨x, hb, hm⟩ := hm
   split at hm
   case isFalse => cases hm
   case isTrue hl =>
     cases hm
     refine (rmsg_good r b o n c zs p w h hx).mono ?_
     rintro e w' ⟨q1, q2⟩
     obtain ⟨v, vs, e1, H1⟩ := q1 x hb (by rw [hl, h.len])
     obtain ⟨o1, o2, o3, o4, o5⟩ := H1.out
     obtain ⟨a1, c1, f1, _⟩ := o1.rd
     obtain ⟨a2, c2, f2, _⟩ := o2.rd
     obtain ⟨a3, c3, f3, _⟩ := o3.rd
     obtain ⟨a4, c4, f4, _⟩ := o4.rd
     rw [f1] at o1 e1
     rw [f2] at o2 e1
     rw [f3] at o3 e1
     rw [f4] at o4 e1
     exact ⟨⟨⟨a1, _, c1⟩, ⟨a2, _, c2⟩, ⟨a3, _, c3⟩, ⟨a4, _, c4⟩⟩, e1, ⟨o1, o2, o3, o4⟩, o5⟩
theorem rmsg_no (r : Nat) (a : Option Addr) (n c : Nat) (zs : List Int) (p : Nat) (w : World) (h : Rdr w r a n c zs p) (hm : gmsg zs = none) :
   Calls Tryz.prog 65 #[.pointer (some ⟨r, 0, none⟩)] w fun e w' => e = .panicked thrown /\ Hid (w.grownBy w' (some r)) := by
 unfold gmsg at hm
 split at hm
 case isTrue hx => exact rmsg_bad r a n c zs p w h hx
 case isFalse hx =>
   have hn : 1 <= n := by have := len12 hx; have := h.len; omega
   obtain ⟨b, o, rfl⟩ := rdr_some h hn
   refine (rmsg_good r b o n c zs p w h hx).mono ?_
   rintro e w' ⟨q1, q2⟩
   refine q2 ?_
   cases hb : gbody (nv zs 2) (nv zs 3) (nv zs 4) (nv zs 5) zs 12 with
   | none => exact .inl rfl
   | some x =>
     rw [hb] at hm
     simp only [Option.bind_some] at hm
     split at hm
     case isTrue => cases hm
     case isFalse hl => exact .inr ⟨x, rfl, by rw [<- h.len]; exact hl⟩
end Go.Proofs.YteplffhfeoephaaGreat
namespace Go.Proofs.YteplffhfeoephaaGreat
open Go.ChangeShapes Go.WideShapes Go.ChangeAt Go.RowKit Go.Maps
theorem three_at (w : World) (a b c : Obj) : Below w.heap.size w (((w.alloc a).alloc b).alloc c) /\ (((w.alloc a).alloc b).alloc c).heap[w.heap.size]? = some a /\ (((w.alloc a).alloc b).alloc c).heap[w.heap.size + 1]? = some b /\ (((w.alloc a).alloc b).alloc c).heap[w.heap.size + 1 + 1]? = some c /\ (((w.alloc a).alloc b).alloc c).heap.size = w.heap.size + 1 + 1 + 1 := by
 have s1 : (w.alloc a).heap.size = w.heap.size + 1 := by simp
 have s2 : ((w.alloc a).alloc b).heap.size = w.heap.size + 1 + 1 := by simp
 have n1 := heap_alloc_new w a
 have n2 := heap_alloc_new (w.alloc a) b
 have n3 := heap_alloc_new ((w.alloc a).alloc b) c
 rw [s1] at n2
 rw [s2] at n3
 refine ⟨(((Below.refl _ w).alloc (Nat.le_refl _) _).alloc (by omega) _).alloc (by omega) _, ?_, ?_, n3, by simp⟩
 · rw [Below.heap_alloc _ _ _ (by omega), Below.heap_alloc _ _ _ (by omega)]; exact n1
 · rw [Below.heap_alloc _ _ _ (by omega)]; exact n2
theorem res_other (w : World) (B0 B1 : Nat) (x0 x1 x2 x3 x4 x5 x6 x7 x8 x9 x10 x11 x12 x13 y : Value) (j : Nat) (h0 : j ≠ B0) (h1 : j ≠ B1) : (((((((((((((((w.setCell ⟨B0, 0, none⟩ (x0)).setCell ⟨B0, 1, none⟩ (x1)).setCell ⟨B0, 2, none⟩ (x2)).setCell ⟨B0, 3, none⟩ (x3)).setCell ⟨B0, 4, none⟩ (x4)).setCell ⟨B0, 5, none⟩ (x5)).setCell ⟨B0, 6, none⟩ (x6)).setCell ⟨B0, 7, none⟩ (x7)).setCell ⟨B0, 8, none⟩ (x8)).setCell ⟨B0, 9, none⟩ (x9)).setCell ⟨B0, 10, none⟩ (x10)).setCell ⟨B0, 11, none⟩ (x11)).setCell ⟨B0, 12, none⟩ (x12)).setCell ⟨B0, 13, none⟩ (x13)).setCell ⟨B1, 0, none⟩ y).heap[j]? = w.heap[j]? :=
 (Below.heap_setCell _ _ _ j h1).trans (put14_other w B0 x0 x1 x2 x3 x4 x5 x6 x7 x8 x9 x10 x11 x12 x13 j h0)
theorem MOw.keep {B : Nat} {w w' : World} {x : MA} {m : Mg} (h : MOw B w x m) (hs : w.heap.size <= w'.heap.size) (hb : ∀ j, B <= j -> j < w.heap.size -> w'.heap[j]? = w.heap[j]?) : MOw B w' x m := ⟨h.1.keep hs hb, h.2.1.keep hs hb, h.2.2.1.keep hs hb, h.2.2.2.keep hs hb⟩
theorem MOw.mono {B B' : Nat} {w : World} {x : MA} {m : Mg} (h : MOw B w x m) (hB : B' <= B) : MOw B' w x m := ⟨h.1.mono hB, h.2.1.mono hB, h.2.2.1.mono hB, h.2.2.2.mono hB⟩
set_option maxHeartbeats 4000000 in
theorem mread_yes (a : Option Addr) (n c : Nat) (zs : List Int) (w : World) (hr : Rd w a zs) (hl : zs.length = n) (hcap : n <= c /\ c <= 9223372036854775807) (hbig : n <= 140737488355328) (hnil : a = none -> c = 0) (hoff : zs = [] ∨ ∀ b o sp, a = some ⟨b, o, sp⟩ -> b < w.heap.size) (m : Mg) (hm : gmsg zs = some m) :
   Calls Tryz.prog 24 #[.slice a n c] w fun e w' => ∃ x : MA, e = .returned (.tuple #[.agg #[.int .u16 m.h.id, .bool m.h.rs, .int .i64 m.h.op, .bool m.h.aa, .bool m.h.tc, .bool m.h.rd, .bool m.h.ra, .bool m.h.ad, .bool m.h.cd, .int .i64 m.h.rc, .slice x.q.a x.q.n x.q.c, .slice x.l1.a x.l1.n x.l1.c, .slice x.l2.a x.l2.n x.l2.c, .slice x.l3.a x.l3.n x.l3.c], .int .i64 0]) /\ Hid (MOw w.heap.size w' x m /\ Below w.heap.size w w') := by
 have K1 : Hid (∀ r W, Rdr W r a n c zs 0 -> Calls Tryz.prog 65 #[.pointer (some ⟨r, 0, none⟩)] W (RmY r zs W m)) := fun r W hW => rmsg_yes r a n c zs 0 m W hW hm
 have hmf : ∀ (fn : Fn) (first cap : Array Value) (w : World), (Instr.makeFunc fn first cap).run Tryz.prog w = .ok (.func fn first cap) w := fun _ _ _ _ => rfl
 obtain ⟨t1, t2, t3, t4, t5⟩ := three_at w (.cells #[.int .u16 0, .bool false, .int .i64 0, .bool false, .bool false, .bool false, .bool false, .bool false, .bool false, .int .i64 0, .slice none 0 0, .slice none 0 0, .slice none 0 0, .slice none 0 0] 26) (.cells #[.int .i64 0] 30) (.cells #[.slice a n c, .int .i64 0] 105)
 obtain ⟨B0, hB0⟩ : ∃ B0, B0 = w.heap.size := ⟨_, rfl⟩
 obtain ⟨B1, hB1⟩ : ∃ B1, B1 = B0 + 1 := ⟨_, rfl⟩
 obtain ⟨r, hr2⟩ : ∃ r, r = B1 + 1 := ⟨_, rfl⟩
 rw [<- hB0] at t2 t3 t4 t5
 rw [<- hB1] at t3 t4 t5
 rw [<- hr2] at t4 t5
 have HRD : Hid (Rdr (((w.alloc (.cells #[.int .u16 0, .bool false, .int .i64 0, .bool false, .bool false, .bool false, .bool false, .bool false, .bool false, .int .i64 0, .slice none 0 0, .slice none 0 0, .slice none 0 0, .slice none 0 0] 26)).alloc (.cells #[.int .i64 0] 30)).alloc (.cells #[.slice a n c, .int .i64 0] 105)) r a n c zs 0) := ⟨t4, hr.below t1, hl, hcap, hbig, hoff.imp id (fun ho b o sp e => by have := ho b o sp e; omega), hnil, Nat.zero_le _⟩
 have HT : Hid ((((w.alloc (.cells #[.int .u16 0, .bool false, .int .i64 0, .bool false, .bool false, .bool false, .bool false, .bool false, .bool false, .int .i64 0, .slice none 0 0, .slice none 0 0, .slice none 0 0, .slice none 0 0] 26)).alloc (.cells #[.int .i64 0] 30)).alloc (.cells #[.slice a n c, .int .i64 0] 105)).heap[B0]? = some (.cells #[.int .u16 0, .bool false, .int .i64 0, .bool false, .bool false, .bool false, .bool false, .bool false, .bool false, .int .i64 0, .slice none 0 0, .slice none 0 0, .slice none 0 0, .slice none 0 0] 26) /\ (((w.alloc (.cells #[.int .u16 0, .bool false, .int .i64 0, .bool false, .bool false, .bool false, .bool false, .bool false, .bool false, .int .i64 0, .slice none 0 0, .slice none 0 0, .slice none 0 0, .slice none 0 0] 26)).alloc (.cells #[.int .i64 0] 30)).alloc (.cells #[.slice a n c, .int .i64 0] 105)).heap[B1]? = some (.cells #[.int .i64 0] 30) /\ (((w.alloc (.cells #[.int .u16 0, .bool false, .int .i64 0, .bool false, .bool false, .bool false, .bool false, .bool false, .bool false, .int .i64 0, .slice none 0 0, .slice none 0 0, .slice none 0 0, .slice none 0 0] 26)).alloc (.cells #[.int .i64 0] 30)).alloc (.cells #[.slice a n c, .int .i64 0] 105)).heap.size = r + 1 /\ Below w.heap.size w (((w.alloc (.cells #[.int .u16 0, .bool false, .int .i64 0, .bool false, .bool false, .bool false, .bool false, .bool false, .bool false, .int .i64 0, .slice none 0 0, .slice none 0 0, .slice none 0 0, .slice none 0 0] 26)).alloc (.cells #[.int .i64 0] 30)).alloc (.cells #[.slice a n c, .int .i64 0] 105))) := ⟨t2, t3, t5, t1⟩
 have HBB : Hid (B0 = w.heap.size /\ B1 = B0 + 1 /\ r = B1 + 1) := ⟨hB0, hB1, hr2⟩
 clear t1 t2 t3 t4 t5 hr hoff
 go_enter_defers Tryz.func24, Tryz.ntmps24
 go_upto_region 3 with fail
 simp only [World.size_alloc, <- hB0, <- hB1, <- hr2]
 generalize (((w.alloc (.cells #[.int .u16 0, .bool false, .int .i64 0, .bool false, .bool false, .bool false, .bool false, .bool false, .bool false, .int .i64 0, .slice none 0 0, .slice none 0 0, .slice none 0 0, .slice none 0 0] 26)).alloc (.cells #[.int .i64 0] 30)).alloc (.cells #[.slice a n c, .int .i64 0] 105)) = w0 at *
 clear hB0 hB1 hr2
 go_wp2_with fail
 refine (K1.out r w0 HRD.out).mono ?_
 rintro e1 w1 ⟨⟨⟨a1, n1, c1⟩, ⟨a2, n2, c2⟩, ⟨a3, n3, c3⟩, ⟨a4, n4, c4⟩⟩, rfl, H1⟩
 obtain ⟨H, hH⟩ : ∃ H, H = m.h := ⟨_, rfl⟩
 simp only [<- hH]
 have HHH := Lib.hid hH
 clear hH
 have g0 : Hid (w1.heap[B0]? = some (.cells #[.int .u16 0, .bool false, .int .i64 0, .bool false, .bool false, .bool false, .bool false, .bool false, .bool false, .int .i64 0, .slice none 0 0, .slice none 0 0, .slice none 0 0, .slice none 0 0] 26)) := (H1.out.2.block B0 (box_lt HT.out.1) (fun e => by injection e with e; have := HBB.out; omega)).trans HT.out.1
 have g1 : Hid (w1.heap[B1]? = some (.cells #[.int .i64 0] 30)) := (H1.out.2.block B1 (box_lt HT.out.2.1) (fun e => by injection e with e; have := HBB.out; omega)).trans HT.out.2.1
 have hlt : B0 < B1 := by have := HBB.out; omega
 have hn1 : ¬ B0 = B1 := by omega
 have hn2 : ¬ B1 = B0 := by omega
 have z0 : w1.cell? ⟨B0, 0, none⟩ = some (.int .u16 0) := box_cell g0.out 0 _ rfl
 have f0 := box_frozen g0.out 0
 have z1 : w1.cell? ⟨B0, 1, none⟩ = some (.bool false) := box_cell g0.out 1 _ rfl
 have f1 := box_frozen g0.out 1
 have z2 : w1.cell? ⟨B0, 2, none⟩ = some (.int .i64 0) := box_cell g0.out 2 _ rfl
 have f2 := box_frozen g0.out 2
 have z3 : w1.cell? ⟨B0, 3, none⟩ = some (.bool false) := box_cell g0.out 3 _ rfl
 have f3 := box_frozen g0.out 3
 have z4 : w1.cell? ⟨B0, 4, none⟩ = some (.bool false) := box_cell g0.out 4 _ rfl
 have f4 := box_frozen g0.out 4
 have z5 : w1.cell? ⟨B0, 5, none⟩ = some (.bool false) := box_cell g0.out 5 _ rfl
 have f5 := box_frozen g0.out 5
 have z6 : w1.cell? ⟨B0, 6, none⟩ = some (.bool false) := box_cell g0.out 6 _ rfl
 have f6 := box_frozen g0.out 6
 have z7 : w1.cell? ⟨B0, 7, none⟩ = some (.bool false) := box_cell g0.out 7 _ rfl
 have f7 := box_frozen g0.out 7
 have z8 : w1.cell? ⟨B0, 8, none⟩ = some (.bool false) := box_cell g0.out 8 _ rfl
 have f8 := box_frozen g0.out 8
 have z9 : w1.cell? ⟨B0, 9, none⟩ = some (.int .i64 0) := box_cell g0.out 9 _ rfl
 have f9 := box_frozen g0.out 9
 have z10 : w1.cell? ⟨B0, 10, none⟩ = some (.slice none 0 0) := box_cell g0.out 10 _ rfl
 have f10 := box_frozen g0.out 10
 have z11 : w1.cell? ⟨B0, 11, none⟩ = some (.slice none 0 0) := box_cell g0.out 11 _ rfl
 have f11 := box_frozen g0.out 11
 have z12 : w1.cell? ⟨B0, 12, none⟩ = some (.slice none 0 0) := box_cell g0.out 12 _ rfl
 have f12 := box_frozen g0.out 12
 have z13 : w1.cell? ⟨B0, 13, none⟩ = some (.slice none 0 0) := box_cell g0.out 13 _ rfl
 have f13 := box_frozen g0.out 13
 have y0 : w1.cell? ⟨B1, 0, none⟩ = some (.int .i64 0) := box_cell g1.out 0 _ rfl
 have fy := box_frozen g1.out 0
 have l0 := box_lt g0.out
 have l1 := box_lt g1.out
 go_wp2_with fail
 obtain ⟨u1, u2, u3⟩ := res_end g0.out g1.out hlt (.int .u16 (H.id : Int)) (.bool H.rs) (.int .i64 H.op) (.bool H.aa) (.bool H.tc) (.bool H.rd) (.bool H.ra) (.bool H.ad) (.bool H.cd) (.int .i64 H.rc) (.slice a1 n1 c1) (.slice a2 n2 c2) (.slice a3 n3 c3) (.slice a4 n4 c4) (.int .i64 0)
 have u4 := res_other w1 B0 B1 (.int .u16 (H.id : Int)) (.bool H.rs) (.int .i64 H.op) (.bool H.aa) (.bool H.tc) (.bool H.rd) (.bool H.ra) (.bool H.ad) (.bool H.cd) (.int .i64 H.rc) (.slice a1 n1 c1) (.slice a2 n2 c2) (.slice a3 n3 c3) (.slice a4 n4 c4) (.int .i64 0)
 have hb1 : Below w.heap.size w w1 := HT.out.2.2.2.grown H1.out.2 (by have := HT.out.2.2.2.size; omega) (fun k hk => by injection hk with hk; have := HBB.out; omega)
 have HBL : Hid (Below w.heap.size w (((((((((((((((w1.setCell ⟨B0, 0, none⟩ (.int .u16 (H.id : Int))).setCell ⟨B0, 1, none⟩ (.bool H.rs)).setCell ⟨B0, 2, none⟩ (.int .i64 H.op)).setCell ⟨B0, 3, none⟩ (.bool H.aa)).setCell ⟨B0, 4, none⟩ (.bool H.tc)).setCell ⟨B0, 5, none⟩ (.bool H.rd)).setCell ⟨B0, 6, none⟩ (.bool H.ra)).setCell ⟨B0, 7, none⟩ (.bool H.ad)).setCell ⟨B0, 8, none⟩ (.bool H.cd)).setCell ⟨B0, 9, none⟩ (.int .i64 H.rc)).setCell ⟨B0, 10, none⟩ (.slice a1 n1 c1)).setCell ⟨B0, 11, none⟩ (.slice a2 n2 c2)).setCell ⟨B0, 12, none⟩ (.slice a3 n3 c3)).setCell ⟨B0, 13, none⟩ (.slice a4 n4 c4)).setCell ⟨B1, 0, none⟩ (.int .i64 0))) := hb1.trans (u3.mono (Nat.le_of_eq HBB.out.1.symm))
 have HMO : Hid (MOw w.heap.size (((((((((((((((w1.setCell ⟨B0, 0, none⟩ (.int .u16 (H.id : Int))).setCell ⟨B0, 1, none⟩ (.bool H.rs)).setCell ⟨B0, 2, none⟩ (.int .i64 H.op)).setCell ⟨B0, 3, none⟩ (.bool H.aa)).setCell ⟨B0, 4, none⟩ (.bool H.tc)).setCell ⟨B0, 5, none⟩ (.bool H.rd)).setCell ⟨B0, 6, none⟩ (.bool H.ra)).setCell ⟨B0, 7, none⟩ (.bool H.ad)).setCell ⟨B0, 8, none⟩ (.bool H.cd)).setCell ⟨B0, 9, none⟩ (.int .i64 H.rc)).setCell ⟨B0, 10, none⟩ (.slice a1 n1 c1)).setCell ⟨B0, 11, none⟩ (.slice a2 n2 c2)).setCell ⟨B0, 12, none⟩ (.slice a3 n3 c3)).setCell ⟨B0, 13, none⟩ (.slice a4 n4 c4)).setCell ⟨B1, 0, none⟩ (.int .i64 0)) ⟨⟨a1, n1, c1⟩, ⟨a2, n2, c2⟩, ⟨a3, n3, c3⟩, ⟨a4, n4, c4⟩⟩ m) := (H1.out.1.keep u3.size (fun j h1 h2 => u4 j (by have := HT.out.2.2.1; have := HBB.out; omega) (by have := HT.out.2.2.1; have := HBB.out; omega))).mono HT.out.2.2.2.size
 have U1 := Lib.hid u1
 have U2 := Lib.hid u2
 clear u1 u2 u3 u4 hb1 H1 z0 f0 z1 f1 z2 f2 z3 f3 z4 f4 z5 f5 z6 f6 z7 f7 z8 f8 z9 f9 z10 f10 z11 f11 z12 f12 z13 f13 y0 fy l0 l1 g0 g1
 generalize (((((((((((((((w1.setCell ⟨B0, 0, none⟩ (.int .u16 (H.id : Int))).setCell ⟨B0, 1, none⟩ (.bool H.rs)).setCell ⟨B0, 2, none⟩ (.int .i64 H.op)).setCell ⟨B0, 3, none⟩ (.bool H.aa)).setCell ⟨B0, 4, none⟩ (.bool H.tc)).setCell ⟨B0, 5, none⟩ (.bool H.rd)).setCell ⟨B0, 6, none⟩ (.bool H.ra)).setCell ⟨B0, 7, none⟩ (.bool H.ad)).setCell ⟨B0, 8, none⟩ (.bool H.cd)).setCell ⟨B0, 9, none⟩ (.int .i64 H.rc)).setCell ⟨B0, 10, none⟩ (.slice a1 n1 c1)).setCell ⟨B0, 11, none⟩ (.slice a2 n2 c2)).setCell ⟨B0, 12, none⟩ (.slice a3 n3 c3)).setCell ⟨B0, 13, none⟩ (.slice a4 n4 c4)).setCell ⟨B1, 0, none⟩ (.int .i64 0)) = w9 at *
 refine leaves_cons (f := 64) (args := #[.pointer (some ⟨B0, 0, none⟩), .pointer (some ⟨B1, 0, none⟩)]) (by simp) (by simp [go_sem]) ?_
 refine (catch_idle B0 B1 w9).mono ?_
 rintro e u' w'' ⟨rfl, rfl, hw⟩
 subst hw
 have k0 := box_cell U1.out 0 _ rfl
 have k1 := box_cell U1.out 1 _ rfl
 have k2 := box_cell U1.out 2 _ rfl
 have k3 := box_cell U1.out 3 _ rfl
 have k4 := box_cell U1.out 4 _ rfl
 have k5 := box_cell U1.out 5 _ rfl
 have k6 := box_cell U1.out 6 _ rfl
 have k7 := box_cell U1.out 7 _ rfl
 have k8 := box_cell U1.out 8 _ rfl
 have k9 := box_cell U1.out 9 _ rfl
 have k10 := box_cell U1.out 10 _ rfl
 have k11 := box_cell U1.out 11 _ rfl
 have k12 := box_cell U1.out 12 _ rfl
 have k13 := box_cell U1.out 13 _ rfl
 have ky := box_cell U2.out 0 _ rfl
 exact ⟨.tuple #[.agg #[.int .u16 (H.id : Int), .bool H.rs, .int .i64 H.op, .bool H.aa, .bool H.tc, .bool H.rd, .bool H.ra, .bool H.ad, .bool H.cd, .int .i64 H.rc, .slice a1 n1 c1, .slice a2 n2 c2, .slice a3 n3 c3, .slice a4 n4 c4], .int .i64 0], by simp [results, Tryz.results24, go_sem, k0, k1, k2, k3, k4, k5, k6, k7, k8, k9, k10, k11, k12, k13, ky], ⟨⟨⟨a1, n1, c1⟩, ⟨a2, n2, c2⟩, ⟨a3, n3, c3⟩, ⟨a4, n4, c4⟩⟩, by rw [HHH.out], HMO.out, HBL.out⟩⟩
set_option maxHeartbeats 4000000 in
theorem mread_no (a : Option Addr) (n c : Nat) (zs : List Int) (w : World) (hr : Rd w a zs) (hl : zs.length = n) (hcap : n <= c /\ c <= 9223372036854775807) (hbig : n <= 140737488355328) (hnil : a = none -> c = 0) (hoff : zs = [] ∨ ∀ b o sp, a = some ⟨b, o, sp⟩ -> b < w.heap.size) (hm : gmsg zs = none) :
   Calls Tryz.prog 24 #[.slice a n c] w fun e w' => e = .returned (.tuple #[.agg #[.int .u16 0, .bool false, .int .i64 0, .bool false, .bool false, .bool false, .bool false, .bool false, .bool false, .int .i64 0, .slice none 0 0, .slice none 0 0, .slice none 0 0, .slice none 0 0], .int .i64 8]) /\ Hid (Below w.heap.size w w') := by
 have K1 : Hid (∀ r W, Rdr W r a n c zs 0 -> Calls Tryz.prog 65 #[.pointer (some ⟨r, 0, none⟩)] W fun e w' => e = .panicked thrown /\ Hid (W.grownBy w' (some r))) := fun r W hW => rmsg_no r a n c zs 0 W hW hm
 have hmf : ∀ (fn : Fn) (first cap : Array Value) (w : World), (Instr.makeFunc fn first cap).run Tryz.prog w = .ok (.func fn first cap) w := fun _ _ _ _ => rfl
 obtain ⟨t1, t2, t3, t4, t5⟩ := three_at w (.cells #[.int .u16 0, .bool false, .int .i64 0, .bool false, .bool false, .bool false, .bool false, .bool false, .bool false, .int .i64 0, .slice none 0 0, .slice none 0 0, .slice none 0 0, .slice none 0 0] 26) (.cells #[.int .i64 0] 30) (.cells #[.slice a n c, .int .i64 0] 105)
 obtain ⟨B0, hB0⟩ : ∃ B0, B0 = w.heap.size := ⟨_, rfl⟩
 obtain ⟨B1, hB1⟩ : ∃ B1, B1 = B0 + 1 := ⟨_, rfl⟩
 obtain ⟨r, hr2⟩ : ∃ r, r = B1 + 1 := ⟨_, rfl⟩
 rw [<- hB0] at t2 t3 t4 t5
 rw [<- hB1] at t3 t4 t5
 rw [<- hr2] at t4 t5
 have HRD : Hid (Rdr (((w.alloc (.cells #[.int .u16 0, .bool false, .int .i64 0, .bool false, .bool false, .bool false, .bool false, .bool false, .bool false, .int .i64 0, .slice none 0 0, .slice none 0 0, .slice none 0 0, .slice none 0 0] 26)).alloc (.cells #[.int .i64 0] 30)).alloc (.cells #[.slice a n c, .int .i64 0] 105)) r a n c zs 0) := ⟨t4, hr.below t1, hl, hcap, hbig, hoff.imp id (fun ho b o sp e => by have := ho b o sp e; omega), hnil, Nat.zero_le _⟩
 have HT : Hid ((((w.alloc (.cells #[.int .u16 0, .bool false, .int .i64 0, .bool false, .bool false, .bool false, .bool false, .bool false, .bool false, .int .i64 0, .slice none 0 0, .slice none 0 0, .slice none 0 0, .slice none 0 0] 26)).alloc (.cells #[.int .i64 0] 30)).alloc (.cells #[.slice a n c, .int .i64 0] 105)).heap[B0]? = some (.cells #[.int .u16 0, .bool false, .int .i64 0, .bool false, .bool false, .bool false, .bool false, .bool false, .bool false, .int .i64 0, .slice none 0 0, .slice none 0 0, .slice none 0 0, .slice none 0 0] 26) /\ (((w.alloc (.cells #[.int .u16 0, .bool false, .int .i64 0, .bool false, .bool false, .bool false, .bool false, .bool false, .bool false, .int .i64 0, .slice none 0 0, .slice none 0 0, .slice none 0 0, .slice none 0 0] 26)).alloc (.cells #[.int .i64 0] 30)).alloc (.cells #[.slice a n c, .int .i64 0] 105)).heap[B1]? = some (.cells #[.int .i64 0] 30) /\ (((w.alloc (.cells #[.int .u16 0, .bool false, .int .i64 0, .bool false, .bool false, .bool false, .bool false, .bool false, .bool false, .int .i64 0, .slice none 0 0, .slice none 0 0, .slice none 0 0, .slice none 0 0] 26)).alloc (.cells #[.int .i64 0] 30)).alloc (.cells #[.slice a n c, .int .i64 0] 105)).heap.size = r + 1 /\ Below w.heap.size w (((w.alloc (.cells #[.int .u16 0, .bool false, .int .i64 0, .bool false, .bool false, .bool false, .bool false, .bool false, .bool false, .int .i64 0, .slice none 0 0, .slice none 0 0, .slice none 0 0, .slice none 0 0] 26)).alloc (.cells #[.int .i64 0] 30)).alloc (.cells #[.slice a n c, .int .i64 0] 105))) := ⟨t2, t3, t5, t1⟩
 have HBB : Hid (B0 = w.heap.size /\ B1 = B0 + 1 /\ r = B1 + 1) := ⟨hB0, hB1, hr2⟩
 clear t1 t2 t3 t4 t5 hr hoff
 go_enter_defers Tryz.func24, Tryz.ntmps24
 go_upto_region 3 with fail
 simp only [World.size_alloc, <- hB0, <- hB1, <- hr2]
 generalize (((w.alloc (.cells #[.int .u16 0, .bool false, .int .i64 0, .bool false, .bool false, .bool false, .bool false, .bool false, .bool false, .int .i64 0, .slice none 0 0, .slice none 0 0, .slice none 0 0, .slice none 0 0] 26)).alloc (.cells #[.int .i64 0] 30)).alloc (.cells #[.slice a n c, .int .i64 0] 105)) = w0 at *
 clear hB0 hB1 hr2
 go_wp2_with fail
 refine (K1.out r w0 HRD.out).mono ?_
 rintro e1 w1 ⟨rfl, H1⟩
 have g0 : Hid (w1.heap[B0]? = some (.cells #[.int .u16 0, .bool false, .int .i64 0, .bool false, .bool false, .bool false, .bool false, .bool false, .bool false, .int .i64 0, .slice none 0 0, .slice none 0 0, .slice none 0 0, .slice none 0 0] 26)) := (H1.out.block B0 (box_lt HT.out.1) (fun e => by injection e with e; have := HBB.out; omega)).trans HT.out.1
 have g1 : Hid (w1.heap[B1]? = some (.cells #[.int .i64 0] 30)) := (H1.out.block B1 (box_lt HT.out.2.1) (fun e => by injection e with e; have := HBB.out; omega)).trans HT.out.2.1
 have hlt : B0 < B1 := by have := HBB.out; omega
 have hb1 : Below w.heap.size w w1 := HT.out.2.2.2.grown H1.out (by have := HT.out.2.2.2.size; omega) (fun k hk => by injection hk with hk; have := HBB.out; omega)
 have HB1 := Lib.hid hb1
 clear hb1
 go_wp2_with fail
 refine leaves_cons (f := 64) (args := #[.pointer (some ⟨B0, 0, none⟩), .pointer (some ⟨B1, 0, none⟩)]) (by simp) (by simp [go_sem]) ?_
 refine (catch_pan B0 B1 w1 g0.out g1.out hlt).mono ?_
 rintro e u' w'' ⟨rfl, rfl, HF⟩
 have U1 := Lib.hid HF.out.1
 have U2 := Lib.hid HF.out.2.1
 have k0 := box_cell U1.out 0 _ rfl
 have k1 := box_cell U1.out 1 _ rfl
 have k2 := box_cell U1.out 2 _ rfl
 have k3 := box_cell U1.out 3 _ rfl
 have k4 := box_cell U1.out 4 _ rfl
 have k5 := box_cell U1.out 5 _ rfl
 have k6 := box_cell U1.out 6 _ rfl
 have k7 := box_cell U1.out 7 _ rfl
 have k8 := box_cell U1.out 8 _ rfl
 have k9 := box_cell U1.out 9 _ rfl
 have k10 := box_cell U1.out 10 _ rfl
 have k11 := box_cell U1.out 11 _ rfl
 have k12 := box_cell U1.out 12 _ rfl
 have k13 := box_cell U1.out 13 _ rfl
 have ky := box_cell U2.out 0 _ rfl
 exact ⟨.tuple #[.agg #[.int .u16 0, .bool false, .int .i64 0, .bool false, .bool false, .bool false, .bool false, .bool false, .bool false, .int .i64 0, .slice none 0 0, .slice none 0 0, .slice none 0 0, .slice none 0 0], .int .i64 8], by simp [results, Tryz.results24, go_sem, k0, k1, k2, k3, k4, k5, k6, k7, k8, k9, k10, k11, k12, k13, ky], rfl, HB1.out.trans (HF.out.2.2.mono (Nat.le_of_eq HBB.out.1.symm))⟩
end Go.Proofs.YteplffhfeoephaaGreat
namespace Go.Proofs.YteplffhfeoephaaGreat
open Go.ChangeShapes Go.WideShapes Go.ChangeAt Go.RowKit Go.Maps Go.Shelf
attribute [local go_sem] Oper.semAt_some
set_option maxHeartbeats 4000000 in
theorem keep_anyx (B g : Nat) (tx : List Int) (pl : List (ByteArray × Nat)) (ss : List ByteArray) (own start m : Nat) (w : World) (h : Wr B w g tx pl) (hk : nck ss = 0) (hs : start <= 65535) (ho : own <= 255) (hm : m <= ss.length) (hown : ∀ k, k < ss.length -> (k < m ↔ offs ss k < own)) (hpl : pl.length <= 100000) (hB : B <= w.heap.size) :
   Calls Tryz.prog 165 #[.pointer (some ⟨g, 0, none⟩), .string (qkey ss), .int .i64 own, .int .i64 start] w fun e w' => e = .returned (.tuple #[]) /\ Hid (Wr B w' g tx (qkeep pl start m ss) /\ Fr B w w' /\ Fx g w w') := by
 obtain ⟨v, ys, mb, h⟩ := h
 have hg := box_lt h.box
 have c2 : w.cell? ⟨g, 2, none⟩ = some (.map (some mb)) := box_cell h.box 2 _ rfl
 have hlo := labs_of hk
 have hmb : mb < w.heap.size := by obtain ⟨es, cl, e⟩ := h.map.isMap; exact box_lt e
 have HST : Hid (∀ (F : Fence) (m Bs : Nat) (W : World), F.fn 192 -> F.round = none -> 1 <= m -> Boxed W Bs 9 (.string (qkey ss)) -> SeqStopsK F m Tryz.prog 192 #[.pointer (some ⟨Bs, 0, none⟩)] (fun x : Ix ss.length => #[Value.int .i64 (offs ss x.1 : Nat)]) (KpS Bs) (fun ys => ys = iup ss.length ss.length) (fun pre => ∃ k, k <= ss.length /\ pre = iup ss.length k) ss.length W) := fun F m Bs W h1 h2 h3 h4 => tails_stops F m h1 h2 h3 Bs ss hk W h4
 have HT : Hid (∀ k, (qkey ss).extract (offs ss k) (qkey ss).size = qkey (ss.drop k) /\ (qkey (ss.drop k)).size <= 255) := fun k => ⟨qkey_tail ss hlo k, by rw [qkey_size]; have := nsz_drop ss k; have := (nck_small hk).1; omega⟩
 have hsz : (qkey ss).size <= 255 := by rw [qkey_size]; exact (nck_small hk).1
 have HOL : Hid (∀ k, offs ss k + 1 <= (qkey ss).size) := fun k => by rw [qkey_size]; exact offs_le ss k
 obtain ⟨s, hS⟩ : ∃ s, qkey ss = s := ⟨_, rfl⟩
 rw [hS] at hsz HST HT HOL ⊢
 have HS : Hid (qkey ss = s) := hS
 have HW : Hid (Wr1 B w g tx pl v ys mb) := h
 clear hS h
 refine (callsIn_wide (n := 3)).1 ?_
 refine callsIn_of_wp_marks Tryz.func165 rfl trivial ?_ rfl
 simp only [Tryz.ntmps165, List.size_toArray, List.length_cons, List.length_nil, Nat.reduceAdd, Nat.reduceSub, Array.replicate_succ, Array.replicate_zero, List.push_toArray, List.append_toArray, List.nil_append, List.cons_append]
 gi_wp2_with (refine ⟨trivial, ?_⟩; gi_at_call 177; refine (callsIn_wide.2 (tails_any _ _)).mono ?_; rintro e w' ⟨rfl, rfl⟩)
 have b0 := ((((Boxed.new w 124 (.pointer (some ⟨g, 0, none⟩))).alloc (.cells #[.string s] 9)).alloc (.cells #[.int .i64 (own : Int)] 3)).alloc (.cells #[.int .i64 (start : Int)] 3)).alloc (.cells #[.string s] 9)
 have b1 := (((Boxed.new (w.alloc (.cells #[.pointer (some ⟨g, 0, none⟩)] 124)) 9 (.string s)).alloc (.cells #[.int .i64 (own : Int)] 3)).alloc (.cells #[.int .i64 (start : Int)] 3)).alloc (.cells #[.string s] 9)
 have b2 := ((Boxed.new ((w.alloc (.cells #[.pointer (some ⟨g, 0, none⟩)] 124)).alloc (.cells #[.string s] 9)) 3 (.int .i64 (own : Int))).alloc (.cells #[.int .i64 (start : Int)] 3)).alloc (.cells #[.string s] 9)
 have b3 := (Boxed.new (((w.alloc (.cells #[.pointer (some ⟨g, 0, none⟩)] 124)).alloc (.cells #[.string s] 9)).alloc (.cells #[.int .i64 (own : Int)] 3)) 3 (.int .i64 (start : Int))).alloc (.cells #[.string s] 9)
 have b4 := Boxed.new ((((w.alloc (.cells #[.pointer (some ⟨g, 0, none⟩)] 124)).alloc (.cells #[.string s] 9)).alloc (.cells #[.int .i64 (own : Int)] 3)).alloc (.cells #[.int .i64 (start : Int)] 3)) 9 (.string s)
 simp only [World.size_alloc] at b1 b2 b3 b4
 have hB0 : Below w.heap.size w (((((w.alloc (.cells #[.pointer (some ⟨g, 0, none⟩)] 124)).alloc (.cells #[.string s] 9)).alloc (.cells #[.int .i64 (own : Int)] 3)).alloc (.cells #[.int .i64 (start : Int)] 3)).alloc (.cells #[.string s] 9)) := (((((Below.refl _ w).alloc (Nat.le_refl _) _).alloc (by simp) _).alloc (by simp; omega) _).alloc (by simp; omega) _).alloc (by simp; omega) _
 have hz0 : (((((w.alloc (.cells #[.pointer (some ⟨g, 0, none⟩)] 124)).alloc (.cells #[.string s] 9)).alloc (.cells #[.int .i64 (own : Int)] 3)).alloc (.cells #[.int .i64 (start : Int)] 3)).alloc (.cells #[.string s] 9)).heap.size = w.heap.size + 5 := by simp
 generalize (((((w.alloc (.cells #[.pointer (some ⟨g, 0, none⟩)] 124)).alloc (.cells #[.string s] 9)).alloc (.cells #[.int .i64 (own : Int)] 3)).alloc (.cells #[.int .i64 (start : Int)] 3)).alloc (.cells #[.string s] 9)) = W0 at *
 have hG0 : w.grownBy W0 (some mb) := ⟨hB0.os, hB0.tape, hB0.output, hB0.size, fun k hk _ => hB0.block k hk⟩
 have hP0 : PlM W0 mb pl := HW.out.map.same (hB0.block mb hmb)
 refine wpIn_rangeFunc_ownG rfl (by omega) (gf := 192) (lb := #[.pointer (some ⟨w.heap.size + 1 + 1 + 1 + 1, 0, none⟩)]) rfl trivial (enters_of Tryz.func192 (by kernel_rfl) rfl)
   (HST.out Fence.wide _ _ W0 trivial rfl (by omega) b4) kpS_t (kpS_b (w := W0)) (Below.refl _ _) (fun _ => rfl)
   (fun pre W => (((((Boxed W w.heap.size 124 (.pointer (some ⟨g, 0, none⟩)) /\ Boxed W (w.heap.size + 1) 9 (.string s)) /\ Boxed W (w.heap.size + 1 + 1) 3 (.int .i64 (own : Int))) /\ Boxed W (w.heap.size + 1 + 1 + 1) 3 (.int .i64 (start : Int))) /\ Hid (∀ z ∈ pre, offs ss z.1 < own /\ start + offs ss z.1 < 16384)) /\ PlM W mb (kf pl start ss pre)) /\ w.grownBy W (some mb))
   (fun cc pre W => ((cc = .exit 0 /\ Hid (∃ (q : List (Ix ss.length)) (y : Ix ss.length), pre = q ++ [y] /\ (∀ z ∈ q, offs ss z.1 < own /\ start + offs ss z.1 < 16384) /\ (own <= offs ss y.1 ∨ 16384 <= start + offs ss y.1))) /\ PlM W mb (kf pl start ss pre.dropLast)) /\ w.grownBy W (some mb))
   (OwnFrom.and (OwnFrom.and (OwnFrom.and (OwnFrom.and (OwnFrom.and (OwnFrom.and ((boxed_own _ _ _).from _) ((boxed_own _ _ _).from _)) ((boxed_own _ _ _).from _)) ((boxed_own _ _ _).from _)) (ownFrom_pure _ _)) (ownFrom_plm (by omega))) (ownFrom_grown (by omega)))
   (fun cc => OwnFrom.and (OwnFrom.and (ownFrom_pure _ _) (ownFrom_plm (by omega))) (ownFrom_grown (by omega)))
   ⟨⟨⟨⟨⟨⟨b0, b1⟩, b2⟩, b3⟩, fun y hy => nomatch hy⟩, hP0⟩, hG0⟩
   (fun y => { tmps := #[.pointer (some ⟨g, 0, none⟩), .string s, .int .i64 (own : Int), .int .i64 (start : Int), .pointer (some ⟨w.heap.size, 0, none⟩), .pointer (some ⟨w.heap.size + 1, 0, none⟩), .pointer (some ⟨w.heap.size + 1 + 1, 0, none⟩), .pointer (some ⟨w.heap.size + 1 + 1 + 1, 0, none⟩), .int .i64 (offs ss y.1 : Nat), undef, undef, .string s, .func (.func 192) #[] #[.pointer (some ⟨w.heap.size + 1 + 1 + 1 + 1, 0, none⟩)], .int .i64 (offs ss y.1 : Nat), undef, undef, undef, undef, undef, undef, undef, undef, undef, undef, undef, undef, undef, undef, undef, undef, undef, undef, undef, undef, undef, undef, undef, undef, undef, undef, undef, undef, undef, undef, undef, undef], defers := [] }) ?assign ?body ?done ?stop
 case assign =>
   intro l y W K hK
   gi_wp2
   exact hK
 case body =>
   rintro l pre ⟨k, hkl⟩ W ⟨⟨⟨⟨⟨⟨hb0, hb1⟩, hb2⟩, hb3⟩, HC⟩, hPl⟩, hGr⟩ hlen
   have d0 := hb0.cell
   have d1 := hb1.cell
   have d2 := hb2.cell
   have d3 := hb3.cell
   clear b0 b1 b2 b3 b4
   have hgm : g ≠ mb := by
     rintro rfl
     obtain ⟨es, c, e⟩ := HW.out.map.isMap
     rw [HW.out.box] at e; cases e
   have dg : W.cell? ⟨g, 2, none⟩ = some (.map (some mb)) := hGr.cell c2 (by simpa using hgm)
   have hgW : g < W.heap.size := Nat.lt_of_lt_of_le hg hGr.size
   obtain ⟨t, ht⟩ : ∃ t, qkey (ss.drop k) = t := ⟨_, rfl⟩
   have hext := (HT.out k).1
   have htz := (HT.out k).2
   have hol := HOL.out k
   rw [ht] at hext htz
   have HFT : Hid (qkey (ss.drop k) = t) := ht
   have HPl : Hid (PlM W mb (kf pl start ss pre)) := hPl
   have HLN : Hid ((kf pl start ss pre).length <= 100255) := by
     have h1 := kf_len pl start ss pre
     have h2 := nck_len hk
     show _ <= _; omega
   have HKS : Hid (kf pl start ss (pre ++ [⟨k, hkl⟩]) = if (qfind (kf pl start ss pre) t).isSome then kf pl start ss pre else (t, start + offs ss k) :: kf pl start ss pre) := (show _ = _ by rw [kf_snoc, kstep, ht])
   obtain ⟨P, hPo⟩ : ∃ P, offs ss k = P := ⟨_, rfl⟩
   have HPO : Hid (offs ss k = P) := hPo
   rw [hPo] at hol hext HKS ⊢
   have hP1 : (P : Int) <= (s.size : Int) := by omega
   have hP2 : (0 : Int) <= (P : Int) := by omega
   have HGr : Hid (w.grownBy W (some mb)) := hGr
   have HBx : Hid (((Boxed W w.heap.size 124 (.pointer (some ⟨g, 0, none⟩)) /\ Boxed W (w.heap.size + 1) 9 (.string s)) /\ Boxed W (w.heap.size + 1 + 1) 3 (.int .i64 (own : Int))) /\ Boxed W (w.heap.size + 1 + 1 + 1) 3 (.int .i64 (start : Int))) := ⟨⟨⟨hb0, hb1⟩, hb2⟩, hb3⟩
   clear hPo ht hPl hGr hb0 hb1 hb2 hb3 HST HT HOL hB0 hG0 hP0
   by_cases hbr : own <= P ∨ 16384 <= start + P
   · have HX : Hid (∃ (q : List (Ix ss.length)) (y : Ix ss.length), pre ++ [⟨k, hkl⟩] = q ++ [y] /\ (∀ z ∈ q, offs ss z.1 < own /\ start + offs ss z.1 < 16384) /\ (own <= offs ss y.1 ∨ 16384 <= start + offs ss y.1)) := ⟨pre, ⟨k, hkl⟩, rfl, HC.out, by simp only [HPO.out]; exact hbr⟩
     have hfin : PlM W mb (kf pl start ss (pre ++ [(⟨k, hkl⟩ : Ix ss.length)]).dropLast) := by rw [List.dropLast_concat]; exact HPl.out
     have HFin := Lib.hid hfin
     clear hfin
     by_cases h1 : own <= P
     · have h1' : (own : Int) <= (P : Int) := by omega
       gi_wp2
       exact ⟨KeepsFrom.refl _ _, ⟨⟨rfl, HX⟩, HFin.out⟩, HGr.out⟩
     · have h1' : (P : Int) < (own : Int) := by omega
       have h2' : (16384 : Int) <= (start : Int) + (P : Int) := by omega
       gi_wp2
       exact ⟨KeepsFrom.refl _ _, ⟨⟨rfl, HX⟩, HFin.out⟩, HGr.out⟩
   · have h1' : (P : Int) < (own : Int) := by omega
     have h2' : (start : Int) + (P : Int) < 16384 := by omega
     have HN : Hid (∀ z ∈ pre ++ [(⟨k, hkl⟩ : Ix ss.length)], offs ss z.1 < own /\ start + offs ss z.1 < 16384) := by
       intro z hz
       rcases List.mem_append.1 hz with hz | hz
       · exact HC.out z hz
       · simp at hz; subst hz; simp only [HPO.out]; omega
     have hlk : ∀ k, (Instr.lookup 161 (.map (some mb)) (.string t) true).run Tryz.prog (W.drewN k) = .ok (.tuple #[.int .i64 ((qfind (kf pl start ss pre) t).getD 0 : Nat), .bool (qfind (kf pl start ss pre) t).isSome]) (W.drewN k) := fun k => (show PlM (W.drewN k) mb (kf pl start ss pre) from HPl.out.same rfl).look t htz
     cases hf : qfind (kf pl start ss pre) t with
     | some p =>
       rw [hf] at hlk HKS
       simp only [Option.getD_some, Option.isSome_some, if_true] at hlk HKS
       have HF : Hid (PlM W mb (kf pl start ss (pre ++ [⟨k, hkl⟩]))) := by rw [HKS.out]; exact HPl.out
       clear hf
       gi_wp2
       refine region_round (F := Fence.wide) rfl (by rfl) (by kernel_rfl) (by kernel_rfl) ?_
       repeat (gi_big_quiet_step (fail))
       refine wpQuietIn_nil ?_
       intro _ hw'
       obtain ⟨nq, hw''⟩ := hw'
       subst hw''
       gi_wp2
       exact ⟨⟨Nat.le_refl _, fun k o _ h _ => h⟩, fun v h => h, ⟨⟨HBx.out, HN⟩, HF.out.same rfl⟩, ⟨HGr.out.os, HGr.out.tape, HGr.out.output, HGr.out.size, HGr.out.block⟩⟩
     | none =>
       rw [hf] at hlk HKS
       simp only [Option.getD_none, Option.isSome_none, Bool.false_eq_true, if_false] at hlk HKS
       have HF : Hid (qfind (kf pl start ss pre) t = none) := hf
       clear hf
       gi_wp2
       refine region_round (F := Fence.wide) rfl (by rfl) (by kernel_rfl) (by kernel_rfl) ?_
       repeat (gi_big_quiet_step (fail))
       refine wpQuietIn_nil ?_
       intro _ hw'
       obtain ⟨nq, hw''⟩ := hw'
       subst hw''
       gi_wp2
       refine region_round_last (F := Fence.wide) (l := [_, _, _, _, _, _, _, _, _, _]) (o := _) rfl (by kernel_rfl) (by kernel_rfl) (by kernel_rfl) (by kernel_rfl) ?_
       repeat (gi_big_quiet_step (fail))
       refine wpQuietIn_nil ?_
       intro _ hw'
       obtain ⟨nq2, hw''⟩ := hw'
       subst hw''
       obtain ⟨W', hrun, hpl', hgr'⟩ := (show PlM ((W.drewN nq).drewN nq2) mb (kf pl start ss pre) from HPl.out.same rfl).store t htz (start + P) (by omega) HF.out (by have := HLN.out; omega)
       have eN : ((start + P : Nat) : Int) = (start : Int) + (P : Int) := by omega
       rw [eN] at hrun
       have hgr2 : W.grownBy W' (some mb) := ⟨hgr'.os, hgr'.tape, hgr'.output, hgr'.size, hgr'.block⟩
       have hb0' := HBx.out.1.1.1.kept hgr2 (by simp; omega)
       have hb1' := HBx.out.1.1.2.kept hgr2 (by simp; omega)
       have hb2' := HBx.out.1.2.kept hgr2 (by simp; omega)
       have hb3' := HBx.out.2.kept hgr2 (by simp; omega)
       have HEND : Hid (KeepsFrom W0.heap.size W W' /\ KpS (w.heap.size + 1 + 1 + 1 + 1) W W' /\ (((((Boxed W' w.heap.size 124 (.pointer (some ⟨g, 0, none⟩)) /\ Boxed W' (w.heap.size + 1) 9 (.string s)) /\ Boxed W' (w.heap.size + 1 + 1) 3 (.int .i64 (own : Int))) /\ Boxed W' (w.heap.size + 1 + 1 + 1) 3 (.int .i64 (start : Int))) /\ Hid (∀ z ∈ pre ++ [(⟨k, hkl⟩ : Ix ss.length)], offs ss z.1 < own /\ start + offs ss z.1 < 16384)) /\ PlM W' mb (kf pl start ss (pre ++ [⟨k, hkl⟩]))) /\ w.grownBy W' (some mb)) :=
         ⟨KeepsFrom.of_grownBy hgr2 (fun j e => by simp only [Option.some.injEq] at e; omega), fun v hv => hv.kept hgr2 (by simp; omega), ⟨⟨⟨⟨⟨hb0', hb1'⟩, hb2'⟩, hb3'⟩, HN⟩, by rw [HKS.out]; exact hpl'⟩, grown_all HGr.out hgr2⟩
       clear hb0' hb1' hb2' hb3' hgr2 hgr' hpl'
       refine wpIn_mapUpdate_eq 161 _ _ _ rfl _ _ _ rfl rfl rfl hrun ?_
       clear hrun
       gi_wp2
       exact HEND.out
 case done =>
   rintro D xs W hD rfl ⟨⟨⟨⟨⟨⟨hb0, hb1⟩, hb2⟩, hb3⟩, HC⟩, hPl⟩, hGr⟩ hK
   have hkf := kf_all pl start m own ss hm hown HC.out
   rw [hkf] at hPl
   have hgD := grown_far hGr (grownBy_putObj' W D (.deferred none)) (by omega)
   obtain ⟨es, cl, e⟩ := hPl.isMap
   have hplD : PlM (W.putObj D (.deferred none)) mb (qkeep pl start m ss) := hPl.same ((grownBy_putObj' W D (.deferred none)).block mb (box_lt e) (by simp; omega))
   have hfin := HW.out.keptx hgD hplD hB
   clear b0 b1 b2 b3 b4 HST HT
   gi_wp2
   refine ⟨by simp, .inl ⟨_, _, rfl, run_takeDeferred hK, ?_⟩⟩
   exact ⟨_, results_none rfl _ _ _, rfl, ⟨_, _, _, hfin.1⟩, hfin.2⟩
 case stop =>
   rintro D cc pre W hD ⟨k, hk9, rfl⟩ ⟨⟨⟨rfl, HC⟩, hPl⟩, hGr⟩ hK
   obtain ⟨q, y, e1, e2, e3⟩ := HC.out
   obtain ⟨j, rfl⟩ : ∃ j, k = j + 1 := ⟨k - 1, by cases k with | zero => simp [iup] at e1 | succ k => rfl⟩
   have hjl : j < ss.length := hk9
   rw [iup_succ hjl] at e1 hPl
   obtain ⟨rfl, ey⟩ := List.append_inj' e1 rfl
   have ey' : y = ⟨j, hjl⟩ := by simpa using ey.symm
   subst ey'
   rw [List.dropLast_concat] at hPl
   have hkf := kf_part pl start m own ss hm hown j hjl e2 e3
   rw [hkf] at hPl
   have hgD := grown_far hGr (grownBy_putObj' W D (.deferred none)) (by omega)
   obtain ⟨es, cl, e⟩ := hPl.isMap
   have hplD : PlM (W.putObj D (.deferred none)) mb (qkeep pl start m ss) := hPl.same ((grownBy_putObj' W D (.deferred none)).block mb (box_lt e) (by simp; omega))
   have hfin := HW.out.keptx hgD hplD hB
   clear b0 b1 b2 b3 b4 HST HT
   gi_wp2
   refine ⟨by simp, .inl ⟨_, _, rfl, run_takeDeferred hK, ?_⟩⟩
   exact ⟨_, results_none rfl _ _ _, rfl, ⟨_, _, _, hfin.1⟩, hfin.2⟩
end Go.Proofs.YteplffhfeoephaaGreat
namespace Go.Proofs.YteplffhfeoephaaGreat
open Go.ChangeShapes Go.WideShapes Go.ChangeAt Go.RowKit Go.Maps
set_option maxHeartbeats 2000000 in
theorem wname_nox (B g : Nat) (tx : List Int) (pl : List (ByteArray × Nat)) (a : Option Addr) (n c : Nat) (ss : List ByteArray) (back : Bool) (w : World) (h : Wr B w g tx pl) (hN : Arg w a n ss) (hn : n <= 8796093021952) (hk : ¬ nck ss = 0) :
   Calls Tryz.prog 146 #[.pointer (some ⟨g, 0, none⟩), .slice a n c, .bool back] w (NmPostx B g (nck ss, tx, pl) w) := by
 have HW : Hid (Wr B w g tx pl) := h
 obtain ⟨v, ys, mb, h⟩ := h
 have hg := box_lt h.box
 have c0 : w.cell? ⟨g, 0, none⟩ = some (.pointer (some ⟨g, 0, none⟩)) := box_cell h.box 0 _ rfl
 have KM := Lib.hid (made_yes g w c0 hg)
 have KB := Lib.hid (pbytes_bad a n c ss w hN hn hk)
 generalize nck ss = q at *
 have hq : (q != 0) = true := bne_iff_ne.2 hk
 clear h hk hN
 go_enter Tryz.func146, Tryz.ntmps146
 go_wp2_with fail
 refine KM.out.mono ?_
 rintro e w1 ⟨rfl, rfl⟩
 go_wp2_with fail
 refine KB.out.mono ?_
 rintro e w1 ⟨rfl, rfl⟩
 go_wp2
 go_ret
 exact ⟨rfl, HW.out, Fr.refl _ _, Fx.refl _ _⟩
set_option maxHeartbeats 4000000 in
theorem wname_yesx (B g : Nat) (tx : List Int) (pl : List (ByteArray × Nat)) (a : Option Addr) (n c : Nat) (ss : List ByteArray) (back : Bool) (w : World) (h : Wr B w g tx pl) (hN : Arg w a n ss) (hk : nck ss = 0) (hB : B <= w.heap.size) (ht : tx.length <= 65535) (hP : ∀ k p, (k, p) ∈ pl -> p < 16384) (hpl : pl.length <= 100000) :
   Calls Tryz.prog 146 #[.pointer (some ⟨g, 0, none⟩), .slice a n c, .bool back] w (NmPostx B g (wnm tx pl ss back) w) := by
 have HW : Hid (Wr B w g tx pl) := h
 obtain ⟨v, ys, mb, h⟩ := h
 have hg := box_lt h.box
 have c0 : w.cell? ⟨g, 0, none⟩ = some (.pointer (some ⟨g, 0, none⟩)) := box_cell h.box 0 _ rfl
 have c1 : w.cell? ⟨g, 1, none⟩ = some v := box_cell h.box 1 _ rfl
 obtain ⟨aot, hvt, _⟩ := h.own.addr
 obtain ⟨T, hT⟩ : ∃ T, tx.length = T := ⟨_, rfl⟩
 obtain ⟨TC, hTC⟩ : ∃ TC, ys.length = TC := ⟨_, rfl⟩
 rw [hT, hTC] at hvt
 rw [hT] at ht
 subst hvt
 have HT : Hid (tx.length = T) := hT
 have HW1 : Hid (Wr1 B w g tx pl (.slice aot T TC) ys mb) := h
 have KM := Lib.hid (made_yes g w c0 hg)
 have hnb : nbytes ss = (nby ss ++ [0], 0) := by unfold nbytes; rw [if_pos hk]
 have KB := Lib.hid (pbytes_room a n c ss w (hN.nm hk))
 rw [hnb] at KB
 have hln : (nby ss ++ [0]).length = nsz ss := by have := nby_len ss; simp; omega
 simp only [hln] at KB
 obtain ⟨N, hNN⟩ : ∃ N, nsz ss = N := ⟨_, rfl⟩
 rw [hNN] at KB hln
 have hN255 : N <= 255 := by rw [<- hNN]; exact (nck_small hk).1
 have HNN : Hid (nsz ss = N /\ (nby ss ++ [0]).length = N) := ⟨hNN, hln⟩
 have HK : Hid (nck ss = 0) := hk
 have HP : Hid (∀ k p, (k, p) ∈ pl -> p < 16384) := hP
 clear h hN hk hP hT hnb hln hNN hTC
 cases back with
 | true =>
   have HSP : Hid (wnm tx pl ss true = if 65535 < T + (qshort pl ss).length then (3, tx, pl) else (0, tx ++ qshort pl ss, qkeep pl T (qown pl ss) ss)) := (show _ = _ by unfold wnm; rw [if_pos HK.out, HT.out]; rfl)
   have HOW : Hid (qob pl ss <= 255 /\ ∀ k, k < ss.length -> (k < qown pl ss ↔ offs ss k < qob pl ss)) := ⟨qob_le pl ss HK.out, fun k hk => own_iff pl ss k hk⟩
   go_enter Tryz.func146, Tryz.ntmps146
   go_wp2_with fail
   refine KM.out.mono ?_
   rintro e w1 ⟨rfl, rfl⟩
   go_wp2_with fail
   refine KB.out.mono ?_
   rintro e w2 ⟨vb, yb, rfl, H2⟩
   obtain ⟨ab, rfl, _⟩ := H2.out.1.addr
   have HRb : Hid (Rd w2 ab (nby ss ++ [0]) /\ N <= yb.length /\ yb.length <= 140737488355328) := by
     obtain ⟨ab', e, hA⟩ := H2.out.1.addr
     cases e
     have := hA.rdTake N
     rw [H2.out.2.1] at this
     exact ⟨this, hA.le.1, H2.out.2.2.2⟩
   have hg2 : g < w2.heap.size := Nat.lt_of_lt_of_le hg H2.out.2.2.1.size
   have d1 : w2.cell? ⟨g, 1, none⟩ = some (.slice aot T TC) := cell_below H2.out.2.2.1 hg c1
   have KS := Lib.hid (shorten_any B g tx pl ab N yb.length ss w2 (HW.out.below H2.out.2.2.1) HK.out HP.out HRb.out.1 HNN.out.2 HRb.out.2.1 (by have := HRb.out.2.2; omega))
   clear KB
   go_wp2_with fail
   refine KS.out.mono ?_
   rintro e w3 ⟨a3, ns, cs, rfl, H3⟩
   have HV3 : Hid (Wr1 B w3 g tx pl (.slice aot T TC) ys mb /\ Fr B w1 w3 /\ B <= w3.heap.size /\ Own w1.heap.size w3 (.slice ab N yb.length) N yb) :=
     ⟨(HW1.out.below H2.out.2.2.1).below H3.out.2.2.2, (Fr.of H2.out.2.2.1 hB).trans (Fr.of H3.out.2.2.2 (Nat.le_trans hB H2.out.2.2.1.size)), Nat.le_trans hB (Nat.le_trans H2.out.2.2.1.size H3.out.2.2.2.size), H2.out.1.below H3.out.2.2.2⟩
   have HX3 : Hid (Fx g w1 w3) := (Fx.of H2.out.2.2.1 hg).trans (Fx.of H3.out.2.2.2 hg2)
   have HRs : Hid (Rd w3 a3 (qshort pl ss) /\ (qshort pl ss).length = ns /\ (a3 = none -> cs = 0)) := ⟨H3.out.1, H3.out.2.1, H3.out.2.2.1⟩
   have hns : ns <= 255 := by rw [<- H3.out.2.1]; have := (qshort_len pl ss (fun s hs => (chk_ok (labs_of HK.out s hs)).1)).2; have := HNN.out.1; omega
   obtain ⟨ob, hob⟩ : ∃ ob, qob pl ss = ob := ⟨_, rfl⟩
   rw [hob] at HOW ⊢
   clear hob
   have KW := Lib.hid (wbytes1x B g tx pl (.slice aot T TC) ys mb a3 ns cs (qshort pl ss) w3 HV3.out.1 HV3.out.2.2.1 (by rw [HT.out]; exact ht) HRs.out.1 HRs.out.2.1 HRs.out.2.2 (by omega))
   simp only [HT.out] at KW
   rw [HRs.out.2.1] at HSP
   by_cases hbig : 65535 < T + ns
   · rw [if_pos hbig, if_pos hbig] at KW
     rw [if_pos hbig] at HSP
     go_wp2_with fail
     refine KW.out.mono ?_
     rintro e w4 ⟨rfl, H4, HX4⟩
     go_wp2
     go_ret
     rw [HSP.out]
     exact ⟨rfl, H4.out.1, HV3.out.2.1.trans H4.out.2.1, HX3.out.trans HX4.out⟩
   · rw [if_neg hbig, if_neg hbig] at KW
     rw [if_neg hbig] at HSP
     go_wp2_with fail
     refine KW.out.mono ?_
     rintro e w4 ⟨rfl, H4, HX4⟩
     have HO4 : Hid (Rd w4 ab (nby ss ++ [0])) := by
       have := HV3.out.2.2.2.keepAt (w' := w4) (fun j hj hl => H4.out.2.2 j hl (fun e => by subst e; have := (HV3.out.2.2.2.blk5 _ hj).1; omega) (fun e => by have h1 := (HV3.out.2.2.2.blk5 _ hj).1; obtain ⟨_, cs', h2⟩ := HW1.out.own.blk5 _ e; have := box_lt h2; omega))
       obtain ⟨ab', e, hA⟩ := this.addr
       cases e
       have := hA.rdTake N
       rw [H2.out.2.1] at this
       exact this
     have hcv : (convert 29 9 (.slice ab N yb.length)).run Tryz.prog w4 = .ok (.string (qkey ss)) w4 := conv_rd _ _ _ _ _ HO4.out HNN.out.2
     have HB4 : Hid (B <= w4.heap.size) := (Nat.le_trans HV3.out.2.2.1 H4.out.2.1.below.size : B <= w4.heap.size)
     have KK := Lib.hid (keep_anyx B g (tx ++ qshort pl ss) pl ss ob T (qown pl ss) w4 H4.out.1 HK.out (by omega) HOW.out.1 (qown_le pl ss) HOW.out.2 hpl HB4.out)
     generalize qkey ss = s at *
     go_wp2_with fail
     refine KK.out.mono ?_
     rintro e w5 ⟨rfl, H5⟩
     go_wp2
     go_ret
     rw [HSP.out]
     exact ⟨rfl, H5.out.1, (HV3.out.2.1.trans H4.out.2.1).trans H5.out.2.1, (HX3.out.trans HX4.out).trans H5.out.2.2⟩
 | false =>
   have HSP : Hid (wnm tx pl ss false = if 65535 < T + (qshort [] ss).length then (3, tx, pl) else (0, tx ++ qshort [] ss, qkeep pl T (qown [] ss) ss)) := (show _ = _ by unfold wnm; rw [if_pos HK.out, HT.out]; rfl)
   have HOW : Hid (N <= 255 /\ ∀ k, k < ss.length -> (k < qown [] ss ↔ offs ss k < N)) := ⟨hN255, fun k hk => by rw [qown_nil, <- HNN.out.1]; have := offs_le ss k; omega⟩
   go_enter Tryz.func146, Tryz.ntmps146
   go_wp2_with fail
   refine KM.out.mono ?_
   rintro e w1 ⟨rfl, rfl⟩
   go_wp2_with fail
   refine KB.out.mono ?_
   rintro e w2 ⟨vb, yb, rfl, H2⟩
   obtain ⟨ab, rfl, hAb⟩ := H2.out.1.addr
   have hnil := hAb.nil
   have hg2 : g < w2.heap.size := Nat.lt_of_lt_of_le hg H2.out.2.2.1.size
   have d1 : w2.cell? ⟨g, 1, none⟩ = some (.slice aot T TC) := cell_below H2.out.2.2.1 hg c1
   have HRs : Hid (Rd w2 ab (qshort [] ss) /\ (qshort [] ss).length = N /\ (ab = none -> yb.length = 0)) := by
     have := hAb.rdTake N
     rw [H2.out.2.1] at this
     rw [qshort_nil]
     exact ⟨this, HNN.out.2, hnil⟩
   have HV3 : Hid (Wr1 B w2 g tx pl (.slice aot T TC) ys mb /\ Fr B w1 w2 /\ B <= w2.heap.size /\ Own w1.heap.size w2 (.slice ab N yb.length) N yb) :=
     ⟨HW1.out.below H2.out.2.2.1, Fr.of H2.out.2.2.1 hB, Nat.le_trans hB H2.out.2.2.1.size, H2.out.1⟩
   have HX3 : Hid (Fx g w1 w2) := Fx.of H2.out.2.2.1 hg
   clear KB hnil hAb
   have KW := Lib.hid (wbytes1x B g tx pl (.slice aot T TC) ys mb ab N yb.length (qshort [] ss) w2 HV3.out.1 HV3.out.2.2.1 (by rw [HT.out]; exact ht) HRs.out.1 HRs.out.2.1 HRs.out.2.2 (by omega))
   simp only [HT.out] at KW
   rw [HRs.out.2.1] at HSP
   by_cases hbig : 65535 < T + N
   · rw [if_pos hbig, if_pos hbig] at KW
     rw [if_pos hbig] at HSP
     go_wp2_with fail
     refine KW.out.mono ?_
     rintro e w4 ⟨rfl, H4, HX4⟩
     go_wp2
     go_ret
     rw [HSP.out]
     exact ⟨rfl, H4.out.1, HV3.out.2.1.trans H4.out.2.1, HX3.out.trans HX4.out⟩
   · rw [if_neg hbig, if_neg hbig] at KW
     rw [if_neg hbig] at HSP
     go_wp2_with fail
     refine KW.out.mono ?_
     rintro e w4 ⟨rfl, H4, HX4⟩
     have HO4 : Hid (Rd w4 ab (nby ss ++ [0])) := by
       have := HV3.out.2.2.2.keepAt (w' := w4) (fun j hj hl => H4.out.2.2 j hl (fun e => by subst e; have := (HV3.out.2.2.2.blk5 _ hj).1; omega) (fun e => by have h1 := (HV3.out.2.2.2.blk5 _ hj).1; obtain ⟨_, cs', h2⟩ := HW1.out.own.blk5 _ e; have := box_lt h2; omega))
       obtain ⟨ab', e, hA⟩ := this.addr
       cases e
       have := hA.rdTake N
       rw [H2.out.2.1] at this
       exact this
     have hcv : (convert 29 9 (.slice ab N yb.length)).run Tryz.prog w4 = .ok (.string (qkey ss)) w4 := conv_rd _ _ _ _ _ HO4.out HNN.out.2
     have HB4 : Hid (B <= w4.heap.size) := (Nat.le_trans HV3.out.2.2.1 H4.out.2.1.below.size : B <= w4.heap.size)
     have KK := Lib.hid (keep_anyx B g (tx ++ qshort [] ss) pl ss N T (qown [] ss) w4 H4.out.1 HK.out (by omega) HOW.out.1 (qown_le [] ss) HOW.out.2 hpl HB4.out)
     generalize qkey ss = s at *
     go_wp2_with fail
     refine KK.out.mono ?_
     rintro e w5 ⟨rfl, H5⟩
     go_wp2
     go_ret
     rw [HSP.out]
     exact ⟨rfl, H5.out.1, (HV3.out.2.1.trans H4.out.2.1).trans H5.out.2.1, (HX3.out.trans HX4.out).trans H5.out.2.2⟩
theorem wname_anyx (B g : Nat) (tx : List Int) (pl : List (ByteArray × Nat)) (a : Option Addr) (n c : Nat) (ss : List ByteArray) (back : Bool) (w : World) (h : Wr B w g tx pl) (hN : Arg w a n ss) (hn : n <= 8796093021952) (hB : B <= w.heap.size) (ht : tx.length <= 65535) (hP : ∀ k p, (k, p) ∈ pl -> p < 16384) (hpl : pl.length <= 100000) :
   Calls Tryz.prog 146 #[.pointer (some ⟨g, 0, none⟩), .slice a n c, .bool back] w (NmPostx B g (wnm tx pl ss back) w) := by
 by_cases hk : nck ss = 0
 · exact wname_yesx B g tx pl a n c ss back w h hN hk hB ht hP hpl
 · have e : wnm tx pl ss back = (nck ss, tx, pl) := by unfold wnm; rw [if_neg hk]
   rw [e]
   exact wname_nox B g tx pl a n c ss back w h hN hn hk
end Go.Proofs.YteplffhfeoephaaGreat
namespace Go.Proofs.YteplffhfeoephaaGreat
open Go.ChangeShapes Go.WideShapes Go.ChangeAt Go.RowKit Go.Maps
set_option maxHeartbeats 1000000 in
theorem wset_yes (B g : Nat) (tx : List Int) (pl : List (ByteArray × Nat)) (T at_ n : Nat) (w : World) (h : Wr B w g tx pl) (hT : tx.length = T) (ht : T <= 65535) (hn : n <= 65535) (ha : at_ + 2 <= T) (hB : B <= w.heap.size) :
   Calls Tryz.prog 150 #[.pointer (some ⟨g, 0, none⟩), .int .i64 at_, .int .i64 n] w fun e w' => e = .returned (.int .i64 0) /\ Hid (Wr B w' g (tx.take at_ ++ numB n 2 ++ tx.drop (at_ + 2)) pl /\ Fr B w w' /\ Fx g w w') := by
 obtain ⟨v, ys, mb, h⟩ := h
 have hg := box_lt h.box
 have c0 : w.cell? ⟨g, 0, none⟩ = some (.pointer (some ⟨g, 0, none⟩)) := box_cell h.box 0 _ rfl
 have c1 : w.cell? ⟨g, 1, none⟩ = some v := box_cell h.box 1 _ rfl
 have HW : Hid (Wr1 B w g tx pl v ys mb) := h
 have hown := h.own
 rw [hT] at hown
 rcases hown with ⟨_, h0, _⟩ | ⟨gb, rfl, hBg, hblk, hTn, hmx⟩
 · omega
 have HBK : Hid (Blk w gb ys /\ B <= gb /\ gb < w.heap.size) := ⟨hblk, hBg, hblk.lt⟩
 generalize hTC : ys.length = TC at *
 have KM := Lib.hid (made_yes g w c0 hg)
 have KP : Hid (Calls Tryz.prog 85 #[.int .i64 n] w fun e w' => e = .returned (.tuple #[.slice (some ⟨w.heap.size, 0, none⟩) 2 2, .int .i64 0]) /\ w' = w.alloc (.cells #[.int .u8 ((n : Int) / 256), .int .u8 ((n : Int) % 256)] 5)) := put16_yes n w (by omega) (by omega)
 have hmx2 : TC <= 9223372036854775807 := by simp only [maxLen] at hmx; omega
 clear h hblk
 have k1 : (at_ : Int) <= (T : Int) - 2 := by omega
 go_enter Tryz.func150, Tryz.ntmps150
 go_wp2_with fail
 refine KM.out.mono ?_
 rintro e w1 ⟨rfl, rfl⟩
 go_wp2_with fail
 refine KP.out.mono ?_
 rintro e w2 ⟨rfl, hw2⟩
 have hb2 : Below w1.heap.size w1 w2 := by rw [hw2]; exact newq_below _ _
 have d1 : w2.cell? ⟨g, 1, none⟩ = some (.slice (some ⟨gb, 0, none⟩) T TC) := cell_below hb2 hg c1
 have hg2 : g < w2.heap.size := Nat.lt_of_lt_of_le hg hb2.size
 have HB2 := Lib.hid hb2
 have HW2 := Lib.hid hw2
 clear hw2 hb2
 have hS : w2.heap[w1.heap.size]? = some (.cells #[.int .u8 ((n : Int) / 256), .int .u8 ((n : Int) % 256)] 5) := by rw [HW2.out]; exact heap_alloc_new _ _
 have hG : w2.heap[gb]? = some (.cells (ys.map (Value.int .u8)).toArray 5 (0, 0)) := (HB2.out.block gb HBK.out.2.2).trans HBK.out.1.1
 have hcp := run_copy_row (P := Tryz.prog) w2 29 29 3 5 gb at_ (T - at_) (TC - at_) ⟨w1.heap.size, 0, none⟩ 2 2 _ 5 [.int .u8 ((n : Int) / 256), .int .u8 ((n : Int) % 256)] Tryz.underlying29 (by kernel_rfl) hG (show 2 = Nat.min 2 (T - at_) from (Nat.min_eq_left (by omega)).symm)
   (by
     intro j u hj
     match j, hj with
     | 0, hj => simp at hj; subst hj; simpa [Addr.add] using box_cell hS 0 _ rfl
     | 1, hj => simp at hj; subst hj; simpa [Addr.add] using box_cell hS 1 _ rfl
     | j + 2, hj => simp at hj) (by simp; omega) (by intro u hu; simp at hu; rcases hu with rfl | rfl <;> rfl)
 have e1 : ((ys.map (Value.int .u8)).toArray.toList.take at_ ++ [Value.int .u8 ((n : Int) / 256), .int .u8 ((n : Int) % 256)] ++ (ys.map (Value.int .u8)).toArray.toList.drop (at_ + [Value.int .u8 ((n : Int) / 256), .int .u8 ((n : Int) % 256)].length)).toArray = ((ys.take at_ ++ numB n 2 ++ ys.drop (at_ + 2)).map (Value.int .u8)).toArray := by
   simp [numB]
 rw [e1] at hcp
 clear e1
 have hcp : (Builtin.copy_ #[29, 29] 3 #[.slice (some ⟨gb, at_, none⟩) (T - at_) (TC - at_), .slice (some ⟨w1.heap.size, 0, none⟩) 2 2]).run Tryz.prog w2 = .ok (.int .i64 2) (w2.setRow gb ((ys.take at_ ++ numB n 2 ++ ys.drop (at_ + 2)).map (Value.int .u8)).toArray) := by
   rw [hcp]; simp [goInt]
 have hnl : (numB n 2).length = 2 := numB_len n 2 (by omega)
 have hlen : (ys.take at_ ++ numB n 2 ++ ys.drop (at_ + 2)).length = TC := by simp only [List.length_append, List.length_take, List.length_drop, hnl]; omega
 have hne : gb ≠ g := by
   rintro rfl
   have := HW.out.box
   rw [HBK.out.1.1] at this
   injection this with this
   injection this with _ this _
   exact absurd this (by decide)
 have HF : Hid (Wr1 B (w2.setRow gb ((ys.take at_ ++ numB n 2 ++ ys.drop (at_ + 2)).map (Value.int .u8)).toArray) g (tx.take at_ ++ numB n 2 ++ tx.drop (at_ + 2)) pl (.slice (some ⟨gb, 0, none⟩) T TC) (ys.take at_ ++ numB n 2 ++ ys.drop (at_ + 2)) mb /\ Fr B w1 (w2.setRow gb ((ys.take at_ ++ numB n 2 ++ ys.drop (at_ + 2)).map (Value.int .u8)).toArray) /\ Fx g w1 (w2.setRow gb ((ys.take at_ ++ numB n 2 ++ ys.drop (at_ + 2)).map (Value.int .u8)).toArray)) := by
   have hoth : ∀ j, j ≠ gb -> (w2.setRow gb ((ys.take at_ ++ numB n 2 ++ ys.drop (at_ + 2)).map (Value.int .u8)).toArray).heap[j]? = w2.heap[j]? := fun j hj => setRow_other w2 gb j _ hj
   have hown2 : w2.heap[gb]? = some (.cells (ys.map (Value.int .u8)).toArray 5) := hG
   have hrow := setRow_block hown2 ((ys.take at_ ++ numB n 2 ++ ys.drop (at_ + 2)).map (Value.int .u8)).toArray
   have hsz := setRow_size w2 gb ((ys.take at_ ++ numB n 2 ++ ys.drop (at_ + 2)).map (Value.int .u8)).toArray
   have hgr : w2.grownBy (w2.setRow gb ((ys.take at_ ++ numB n 2 ++ ys.drop (at_ + 2)).map (Value.int .u8)).toArray) (some gb) := ⟨rfl, rfl, rfl, by rw [hsz]; exact Nat.le_refl _, fun j _ hne => hoth j (fun e => hne (by rw [e]))⟩
   have hW2 := HW.out.below HB2.out
   generalize w2.setRow gb ((ys.take at_ ++ numB n 2 ++ ys.drop (at_ + 2)).map (Value.int .u8)).toArray = w3 at *
   have htl : (tx.take at_ ++ numB n 2 ++ tx.drop (at_ + 2)).length = T := by simp only [List.length_append, List.length_take, List.length_drop, hnl]; omega
   have htx := HW.out.txt
   rw [hT] at htx
   obtain ⟨es, cl, em⟩ := hW2.map.isMap
   have hmg : mb ≠ gb := by rintro rfl; rw [hG] at em; cases em
   refine ⟨⟨(hoth g (Ne.symm hne)).trans hW2.box, hW2.gB, hW2.mB, ?_, ?_, hW2.map.same (hoth mb hmg)⟩, ?_, ?_⟩
   · rw [htl]
     refine .inr ⟨gb, by rw [hlen], HBK.out.2.1, ⟨hrow, ?_⟩, by rw [hlen]; exact hTn, by rw [hlen]; exact hmx⟩
     intro z hz
     simp only [List.mem_append] at hz
     rcases hz with (hz | hz) | hz
     · exact HBK.out.1.2 z (List.mem_of_mem_take hz)
     · simp [numB] at hz; omega
     · exact HBK.out.1.2 z (List.mem_of_mem_drop hz)
   · rw [htl, <- htx, List.take_take, Nat.min_eq_left (by omega), List.drop_take]
     have q1 : (ys.take at_ ++ numB n 2).length = at_ + 2 := by simp only [List.length_append, List.length_take, hnl]; omega
     rw [List.take_append, q1, List.take_of_length_le (by rw [q1]; omega)]
   · refine ⟨HB2.out.mono hB |>.trans ((Below.refl B w2).grown hgr (Nat.le_trans hB HB2.out.size) (fun k e => by simp only [Option.some.injEq] at e; subst e; exact HBK.out.2.1)), ?_⟩
     intro j cs t fr hj h5 _
     have e1 := HB2.out.block j (box_lt hj)
     refine (hoth j ?_).trans e1
     rintro rfl
     rw [HBK.out.1.1] at hj
     cases hj
     exact h5 rfl
   · refine ⟨Nat.le_trans HB2.out.size (by rw [hsz]; exact Nat.le_refl _), fun j cs fr hj hn => ?_, .inl (tbk_same ((hoth g (Ne.symm hne)).trans (HB2.out.block g hg)))⟩
     rw [tbk_box HW.out.box] at hn
     refine (hoth j ?_).trans (HB2.out.block j (box_lt hj))
     rintro rfl
     exact hn rfl
 generalize w2.setRow gb ((ys.take at_ ++ numB n 2 ++ ys.drop (at_ + 2)).map (Value.int .u8)).toArray = w3 at *
 clear hS hG hlen
 go_wp2
 go_ret
 exact ⟨rfl, ⟨_, _, _, HF.out.1⟩, HF.out.2⟩
end Go.Proofs.YteplffhfeoephaaGreat
