/- Texts laid together, in parts: Yd Xi Vy Vz. -/
import Derived.Test.YtmlccnpondemiaaWtc
import Derived.Deep.RegionHeld3
import Derived.Deep.QuietTactic
import Derived.BigQuiet
import Derived.Lib.Hide
namespace Go.Proofs.Ytmlccnpondemiaa
open Go.ChangeShapes Go.WideShapes Go.ChangeAt Go.RowKit Go.Maps
set_option linter.unusedVariables false
set_option linter.unusedSimpArgs false
set_option maxRecDepth 100000
set_option maxHeartbeats 2000000
def ops3 : Array Oper := #[{ dst := some 22, op := Op.load 26 (Operand.tmp 3), type := 26, pos := "law.go:16", after := #[], guard := none }, { dst := some 23, op := Op.call { callee := Callee.value (Operand.func 9), args := #[Operand.tmp 22], argTypes := #[26] }, type := 26, pos := "law.go:16", after := #[{ on := 0, ground := Ground.data }], guard := none }, { dst := some 24, op := Op.load 26 (Operand.tmp 4), type := 26, pos := "law.go:16", after := #[], guard := none }, { dst := some 25, op := Op.call { callee := Callee.value (Operand.func 9), args := #[Operand.tmp 24], argTypes := #[26] }, type := 26, pos := "law.go:16", after := #[{ on := 2, ground := Ground.data }, { on := 1, ground := Ground.chain }], guard := none }, { dst := some 7, op := Op.alloc 26, type := 0, pos := "law.go:16", after := #[], guard := none }, { dst := some 8, op := Op.alloc 26, type := 0, pos := "law.go:16", after := #[], guard := none }, { dst := none, op := Op.store 26 (Operand.tmp 7) (Operand.tmp 23), type := 0, pos := "law.go:16", after := #[{ on := 4, ground := Ground.data }, { on := 1, ground := Ground.data }, { on := 3, ground := Ground.chain }, { on := 0, ground := Ground.phase }, { on := 1, ground := Ground.phase }, { on := 2, ground := Ground.textOnly Departure.lateStores }, { on := 3, ground := Ground.textOnly Departure.lateStoresUnsure }, { on := 4, ground := Ground.phase }, { on := 5, ground := Ground.phase }], guard := none }, { dst := none, op := Op.store 26 (Operand.tmp 8) (Operand.tmp 25), type := 0, pos := "law.go:16", after := #[{ on := 5, ground := Ground.data }, { on := 3, ground := Ground.data }, { on := 6, ground := Ground.chain }, { on := 0, ground := Ground.phase }, { on := 1, ground := Ground.phase }, { on := 2, ground := Ground.phase }, { on := 3, ground := Ground.phase }, { on := 4, ground := Ground.phase }, { on := 5, ground := Ground.phase }, { on := 6, ground := Ground.phase }], guard := none }]
/-- The frame there: slots that turn. -/
abbrev AT (m t c p0 p1 p2 s7 s8 s22 s23 s24 s25 : Value) : Act := { tmps := #[m, t, c, p0, p1, p2, .bool false, s7, s8, undef, undef, undef, undef, undef, undef, undef, m, .bool false, .bool false, t, .bool false, .bool false, s22, s23, s24, s25, undef, undef, undef, undef, undef, undef, undef, undef, undef, undef, undef, undef, undef, undef, undef, undef, undef, undef, undef, undef, undef, undef, undef, undef, undef, undef, undef, undef, undef, undef, undef, undef, undef, undef, undef, undef, undef, undef, undef, undef, undef, undef, undef, undef, undef, undef, undef, undef, undef, undef, undef, undef, undef, undef, undef, undef, undef, undef, undef, undef, undef, undef], defers := [] }
abbrev ptr (p : Nat) : Value := .pointer (some ⟨p, 0, none⟩)
def Bxz (V W : World) (p : Nat) : Prop := V.heap.size ≤ p ∧ W.heap[p]? = some (.cells #[.int .u16 0, .bool false, .int .i64 0, .bool false, .bool false, .bool false, .bool false, .bool false, .bool false, .int .i64 0, .slice none 0 0, .slice none 0 0, .slice none 0 0, .slice none 0 0] 26)
theorem Bxz.go {V W W' : World} {p : Nat} (h : Bxz V W p) (hb : Below W.heap.size W W') : Bxz V W' p := ⟨h.1, (hb.block _ (block_lt h.2)).trans h.2⟩
theorem Bxz.new {V W : World} (h : Below V.heap.size V W) : Bxz V (W.alloc (.cells #[.int .u16 0, .bool false, .int .i64 0, .bool false, .bool false, .bool false, .bool false, .bool false, .bool false, .int .i64 0, .slice none 0 0, .slice none 0 0, .slice none 0 0, .slice none 0 0] 26)) W.heap.size := ⟨h.size, heap_alloc_new _ _⟩
/-- A copy whose blocks are none of p, q. -/
def CpP (V W : World) (p q : Option Nat) (s1 s2 s3 s4 : Sl) (qs : List Qn) (r2 r3 r4 : List Rec) : Prop :=
  ∃ lo hi, V.heap.size ≤ lo ∧ (∀ x, p = some x → ¬ (lo ≤ x ∧ x < hi)) ∧ (∀ x, q = some x → ¬ (lo ≤ x ∧ x < hi)) ∧ Cpy lo hi W s1 s2 s3 s4 qs r2 r3 r4
theorem CpP.go {V W W' : World} {p q : Option Nat} {s1 s2 s3 s4 : Sl} {qs : List Qn} {r2 r3 r4 : List Rec} (h : CpP V W p q s1 s2 s3 s4 qs r2 r3 r4) (hb : Below W.heap.size W W') : CpP V W' p q s1 s2 s3 s4 qs r2 r3 r4 := by
  obtain ⟨lo, hi, h1, h2, h3, h4⟩ := h
  exact ⟨lo, hi, h1, h2, h3, h4.go (Nat.le_trans h4.1 hb.size) (fun j a b => hb.block j (Nat.lt_of_lt_of_le b h4.1))⟩
theorem CpP.p {V W W' : World} {q : Option Nat} {s1 s2 s3 s4 : Sl} {qs : List Qn} {r2 r3 r4 : List Rec} (h : CpP V W none q s1 s2 s3 s4 qs r2 r3 r4) (hb : Below W.heap.size W W') : CpP V W' (some W.heap.size) q s1 s2 s3 s4 qs r2 r3 r4 := by
  obtain ⟨lo, hi, h1, h2, h3, h4⟩ := h
  exact ⟨lo, hi, h1, fun x e => by cases e; intro hx; have := h4.1; omega, h3, h4.go (Nat.le_trans h4.1 hb.size) (fun j a b => hb.block j (Nat.lt_of_lt_of_le b h4.1))⟩
theorem CpP.q {V W W' : World} {p : Option Nat} {s1 s2 s3 s4 : Sl} {qs : List Qn} {r2 r3 r4 : List Rec} (h : CpP V W p none s1 s2 s3 s4 qs r2 r3 r4) (hb : Below W.heap.size W W') : CpP V W' p (some W.heap.size) s1 s2 s3 s4 qs r2 r3 r4 := by
  obtain ⟨lo, hi, h1, h2, h3, h4⟩ := h
  exact ⟨lo, hi, h1, h2, fun x e => by cases e; intro hx; have := h4.1; omega, h4.go (Nat.le_trans h4.1 hb.size) (fun j a b => hb.block j (Nat.lt_of_lt_of_le b h4.1))⟩
theorem CpP.new {V W w : World} {p q : Option Nat} {s1 s2 s3 s4 : Sl} {qs : List Qn} {r2 r3 r4 : List Rec} (hB : Below V.heap.size V W) (hp : ∀ x, p = some x → x < W.heap.size) (hq : ∀ x, q = some x → x < W.heap.size) (h : Cpy W.heap.size w.heap.size w s1 s2 s3 s4 qs r2 r3 r4) : CpP V w p q s1 s2 s3 s4 qs r2 r3 r4 :=
  ⟨_, _, hB.size, fun x e hx => by have := hp x e; omega, fun x e hx => by have := hq x e; omega, h⟩
/-- A store into one of the boxes. -/
theorem CpP.set {V W W' : World} {p q : Nat} {s1 s2 s3 s4 : Sl} {qs : List Qn} {r2 r3 r4 : List Rec} (h : CpP V W (some p) (some q) s1 s2 s3 s4 qs r2 r3 r4) (g : Nat) (hg : g = p ∨ g = q) (hs : W'.heap.size = W.heap.size) (hb : ∀ j, j ≠ g → W'.heap[j]? = W.heap[j]?) : CpP V W' (some p) (some q) s1 s2 s3 s4 qs r2 r3 r4 := by
  obtain ⟨lo, hi, h1, h2, h3, h4⟩ := h
  refine ⟨lo, hi, h1, h2, h3, h4.go (by rw [hs]; exact h4.1) (fun j a b => hb j (fun e => ?_))⟩
  subst e
  rcases hg with rfl | rfl
  · exact h2 _ rfl ⟨a, b⟩
  · exact h3 _ rfl ⟨a, b⟩
theorem CpP.mf {V W : World} {p q : Option Nat} {s1 s2 s3 s4 : Sl} {qs : List Qn} {r2 r3 r4 : List Rec} (h : CpP V W p q s1 s2 s3 s4 qs r2 r3 r4) : MF W s1 s2 s3 s4 qs r2 r3 r4 := by
  obtain ⟨_, _, _, _, _, h4⟩ := h
  exact h4.mf
/-- What holds of a box that is made: its cells. -/
theorem FZ {V W : World} {g : Nat} (h : Bxz V W g) : W.frozen? ⟨g, 0, none⟩ = false ∧ W.frozen? ⟨g, 1, none⟩ = false ∧ W.frozen? ⟨g, 2, none⟩ = false ∧ W.frozen? ⟨g, 3, none⟩ = false ∧ W.frozen? ⟨g, 4, none⟩ = false ∧ W.frozen? ⟨g, 5, none⟩ = false ∧ W.frozen? ⟨g, 6, none⟩ = false ∧ W.frozen? ⟨g, 7, none⟩ = false ∧ W.frozen? ⟨g, 8, none⟩ = false ∧ W.frozen? ⟨g, 9, none⟩ = false ∧ W.frozen? ⟨g, 10, none⟩ = false ∧ W.frozen? ⟨g, 11, none⟩ = false ∧ W.frozen? ⟨g, 12, none⟩ = false ∧ W.frozen? ⟨g, 13, none⟩ = false ∧ g < W.heap.size ∧ W.cell? ⟨g, 0, none⟩ = some (.int .u16 0) ∧ W.cell? ⟨g, 1, none⟩ = some (.bool false) ∧ W.cell? ⟨g, 2, none⟩ = some (.int .i64 0) ∧ W.cell? ⟨g, 3, none⟩ = some (.bool false) ∧ W.cell? ⟨g, 4, none⟩ = some (.bool false) ∧ W.cell? ⟨g, 5, none⟩ = some (.bool false) ∧ W.cell? ⟨g, 6, none⟩ = some (.bool false) ∧ W.cell? ⟨g, 7, none⟩ = some (.bool false) ∧ W.cell? ⟨g, 8, none⟩ = some (.bool false) ∧ W.cell? ⟨g, 9, none⟩ = some (.int .i64 0) ∧ W.cell? ⟨g, 10, none⟩ = some (.slice none 0 0) ∧ W.cell? ⟨g, 11, none⟩ = some (.slice none 0 0) ∧ W.cell? ⟨g, 12, none⟩ = some (.slice none 0 0) ∧ W.cell? ⟨g, 13, none⟩ = some (.slice none 0 0) := ⟨frozen_of_block h.2, frozen_of_block h.2, frozen_of_block h.2, frozen_of_block h.2, frozen_of_block h.2, frozen_of_block h.2, frozen_of_block h.2, frozen_of_block h.2, frozen_of_block h.2, frozen_of_block h.2, frozen_of_block h.2, frozen_of_block h.2, frozen_of_block h.2, frozen_of_block h.2, block_lt h.2, cell_of_block h.2 rfl, cell_of_block h.2 rfl, cell_of_block h.2 rfl, cell_of_block h.2 rfl, cell_of_block h.2 rfl, cell_of_block h.2 rfl, cell_of_block h.2 rfl, cell_of_block h.2 rfl, cell_of_block h.2 rfl, cell_of_block h.2 rfl, cell_of_block h.2 rfl, cell_of_block h.2 rfl, cell_of_block h.2 rfl, cell_of_block h.2 rfl⟩
theorem size_set14 (w : World) (g : Nat) (x0 x1 x2 x3 x4 x5 x6 x7 x8 x9 x10 x11 x12 x13 : Value) : ((((((((((((((w.setCell ⟨g, 0, none⟩ x0).setCell ⟨g, 1, none⟩ x1).setCell ⟨g, 2, none⟩ x2).setCell ⟨g, 3, none⟩ x3).setCell ⟨g, 4, none⟩ x4).setCell ⟨g, 5, none⟩ x5).setCell ⟨g, 6, none⟩ x6).setCell ⟨g, 7, none⟩ x7).setCell ⟨g, 8, none⟩ x8).setCell ⟨g, 9, none⟩ x9).setCell ⟨g, 10, none⟩ x10).setCell ⟨g, 11, none⟩ x11).setCell ⟨g, 12, none⟩ x12).setCell ⟨g, 13, none⟩ x13).heap.size = w.heap.size := by simp [World.setCell]
theorem Below.put14 {V w : World} {g : Nat} (h : Below V.heap.size V w) (hg : V.heap.size ≤ g) (x0 x1 x2 x3 x4 x5 x6 x7 x8 x9 x10 x11 x12 x13 : Value) : Below V.heap.size V ((((((((((((((w.setCell ⟨g, 0, none⟩ x0).setCell ⟨g, 1, none⟩ x1).setCell ⟨g, 2, none⟩ x2).setCell ⟨g, 3, none⟩ x3).setCell ⟨g, 4, none⟩ x4).setCell ⟨g, 5, none⟩ x5).setCell ⟨g, 6, none⟩ x6).setCell ⟨g, 7, none⟩ x7).setCell ⟨g, 8, none⟩ x8).setCell ⟨g, 9, none⟩ x9).setCell ⟨g, 10, none⟩ x10).setCell ⟨g, 11, none⟩ x11).setCell ⟨g, 12, none⟩ x12).setCell ⟨g, 13, none⟩ x13) := h.trans ((put14_below w g x0 x1 x2 x3 x4 x5 x6 x7 x8 x9 x10 x11 x12 x13).mono hg)
theorem st_last {Q : Exit → Act → World → Prop} {S : World → Prop} {V : World} {c p0 p1 p2 : Value} {id : Nat} {rs : Bool} {op : Int} {aa tc rd ra ad cd : Bool} {rc : Int} {id' : Nat} {rs' : Bool} {op' : Int} {aa' tc' rd' ra' ad' cd' : Bool} {rc' : Int} {u1 u2 u3 u4 v1 v2 v3 v4 : Sl} {qs ps : List Qn} {r2 r3 r4 q2 q3 q4 : List Rec}
    (hS : ∀ W, Below V.heap.size V W → S W)
    (K1 : Hid (∀ W, Below V.heap.size V W → Calls Try.prog 9 #[.agg #[.int .u16 (id : Int), .bool rs, .int .i64 op, .bool aa, .bool tc, .bool rd, .bool ra, .bool ad, .bool cd, .int .i64 rc, .slice u1.a u1.n u1.c, .slice u2.a u2.n u2.c, .slice u3.a u3.n u3.c, .slice u4.a u4.n u4.c]] W fun e w' => ∃ s1 s2 s3 s4 : Sl, e = .returned (.agg #[.int .u16 (id : Int), .bool rs, .int .i64 op, .bool aa, .bool tc, .bool rd, .bool ra, .bool ad, .bool cd, .int .i64 rc, .slice s1.a s1.n s1.c, .slice s2.a s2.n s2.c, .slice s3.a s3.n s3.c, .slice s4.a s4.n s4.c]) ∧ Hid (Below W.heap.size W w' ∧ Cpy W.heap.size w'.heap.size w' s1 s2 s3 s4 qs r2 r3 r4)))
    (K2 : Hid (∀ W, Below V.heap.size V W → Calls Try.prog 9 #[.agg #[.int .u16 (id' : Int), .bool rs', .int .i64 op', .bool aa', .bool tc', .bool rd', .bool ra', .bool ad', .bool cd', .int .i64 rc', .slice v1.a v1.n v1.c, .slice v2.a v2.n v2.c, .slice v3.a v3.n v3.c, .slice v4.a v4.n v4.c]] W fun e w' => ∃ t1 t2 t3 t4 : Sl, e = .returned (.agg #[.int .u16 (id' : Int), .bool rs', .int .i64 op', .bool aa', .bool tc', .bool rd', .bool ra', .bool ad', .bool cd', .int .i64 rc', .slice t1.a t1.n t1.c, .slice t2.a t2.n t2.c, .slice t3.a t3.n t3.c, .slice t4.a t4.n t4.c]) ∧ Hid (Below W.heap.size W w' ∧ Cpy W.heap.size w'.heap.size w' t1 t2 t3 t4 ps q2 q3 q4)))
    (hfin : Hid (∀ (p q : Nat) (s1 s2 s3 s4 t1 t2 t3 t4 : Sl) (W : World), V.heap.size ≤ p → V.heap.size ≤ q → W.heap[p]? = some (.cells #[.int .u16 (id : Int), .bool rs, .int .i64 op, .bool aa, .bool tc, .bool rd, .bool ra, .bool ad, .bool cd, .int .i64 rc, .slice s1.a s1.n s1.c, .slice s2.a s2.n s2.c, .slice s3.a s3.n s3.c, .slice s4.a s4.n s4.c] 26) → W.heap[q]? = some (.cells #[.int .u16 (id' : Int), .bool rs', .int .i64 op', .bool aa', .bool tc', .bool rd', .bool ra', .bool ad', .bool cd', .int .i64 rc', .slice t1.a t1.n t1.c, .slice t2.a t2.n t2.c, .slice t3.a t3.n t3.c, .slice t4.a t4.n t4.c] 26) → MF W s1 s2 s3 s4 qs r2 r3 r4 → MF W t1 t2 t3 t4 ps q2 q3 q4 → Below V.heap.size V W → Q .normal (AT (.agg #[.int .u16 (id : Int), .bool rs, .int .i64 op, .bool aa, .bool tc, .bool rd, .bool ra, .bool ad, .bool cd, .int .i64 rc, .slice u1.a u1.n u1.c, .slice u2.a u2.n u2.c, .slice u3.a u3.n u3.c, .slice u4.a u4.n u4.c]) (.agg #[.int .u16 (id' : Int), .bool rs', .int .i64 op', .bool aa', .bool tc', .bool rd', .bool ra', .bool ad', .bool cd', .int .i64 rc', .slice v1.a v1.n v1.c, .slice v2.a v2.n v2.c, .slice v3.a v3.n v3.c, .slice v4.a v4.n v4.c]) c p0 p1 p2 (ptr p) (ptr q) (.agg #[.int .u16 (id : Int), .bool rs, .int .i64 op, .bool aa, .bool tc, .bool rd, .bool ra, .bool ad, .bool cd, .int .i64 rc, .slice u1.a u1.n u1.c, .slice u2.a u2.n u2.c, .slice u3.a u3.n u3.c, .slice u4.a u4.n u4.c]) (.agg #[.int .u16 (id : Int), .bool rs, .int .i64 op, .bool aa, .bool tc, .bool rd, .bool ra, .bool ad, .bool cd, .int .i64 rc, .slice s1.a s1.n s1.c, .slice s2.a s2.n s2.c, .slice s3.a s3.n s3.c, .slice s4.a s4.n s4.c]) (.agg #[.int .u16 (id' : Int), .bool rs', .int .i64 op', .bool aa', .bool tc', .bool rd', .bool ra', .bool ad', .bool cd', .int .i64 rc', .slice v1.a v1.n v1.c, .slice v2.a v2.n v2.c, .slice v3.a v3.n v3.c, .slice v4.a v4.n v4.c]) (.agg #[.int .u16 (id' : Int), .bool rs', .int .i64 op', .bool aa', .bool tc', .bool rd', .bool ra', .bool ad', .bool cd', .int .i64 rc', .slice t1.a t1.n t1.c, .slice t2.a t2.n t2.c, .slice t3.a t3.n t3.c, .slice t4.a t4.n t4.c])) W)) (W : World) (hB : Hid (Below V.heap.size V W)) (p : Nat) (hp1 : V.heap.size ≤ p) (s1 s2 s3 s4 : Sl) (hp : Hid (W.heap[p]? = some (.cells #[.int .u16 (id : Int), .bool rs, .int .i64 op, .bool aa, .bool tc, .bool rd, .bool ra, .bool ad, .bool cd, .int .i64 rc, .slice s1.a s1.n s1.c, .slice s2.a s2.n s2.c, .slice s3.a s3.n s3.c, .slice s4.a s4.n s4.c] 26))) (q : Nat) (hq : Hid (Bxz V W q)) (hpq : p ≠ q) (hs : Hid (CpP V W (some p) (some q) s1 s2 s3 s4 qs r2 r3 r4)) (t1 t2 t3 t4 : Sl) (ht : Hid (CpP V W (some p) (some q) t1 t2 t3 t4 ps q2 q3 q4)) :
    wpAnyH Try.prog .any ops3 Q S 1 #[true, true, true, true, true, true, true, false] (AT (.agg #[.int .u16 (id : Int), .bool rs, .int .i64 op, .bool aa, .bool tc, .bool rd, .bool ra, .bool ad, .bool cd, .int .i64 rc, .slice u1.a u1.n u1.c, .slice u2.a u2.n u2.c, .slice u3.a u3.n u3.c, .slice u4.a u4.n u4.c]) (.agg #[.int .u16 (id' : Int), .bool rs', .int .i64 op', .bool aa', .bool tc', .bool rd', .bool ra', .bool ad', .bool cd', .int .i64 rc', .slice v1.a v1.n v1.c, .slice v2.a v2.n v2.c, .slice v3.a v3.n v3.c, .slice v4.a v4.n v4.c]) c p0 p1 p2 (ptr p) (ptr q) (.agg #[.int .u16 (id : Int), .bool rs, .int .i64 op, .bool aa, .bool tc, .bool rd, .bool ra, .bool ad, .bool cd, .int .i64 rc, .slice u1.a u1.n u1.c, .slice u2.a u2.n u2.c, .slice u3.a u3.n u3.c, .slice u4.a u4.n u4.c]) (.agg #[.int .u16 (id : Int), .bool rs, .int .i64 op, .bool aa, .bool tc, .bool rd, .bool ra, .bool ad, .bool cd, .int .i64 rc, .slice s1.a s1.n s1.c, .slice s2.a s2.n s2.c, .slice s3.a s3.n s3.c, .slice s4.a s4.n s4.c]) (.agg #[.int .u16 (id' : Int), .bool rs', .int .i64 op', .bool aa', .bool tc', .bool rd', .bool ra', .bool ad', .bool cd', .int .i64 rc', .slice v1.a v1.n v1.c, .slice v2.a v2.n v2.c, .slice v3.a v3.n v3.c, .slice v4.a v4.n v4.c]) (.agg #[.int .u16 (id' : Int), .bool rs', .int .i64 op', .bool aa', .bool tc', .bool rd', .bool ra', .bool ad', .bool cd', .int .i64 rc', .slice t1.a t1.n t1.c, .slice t2.a t2.n t2.c, .slice t3.a t3.n t3.c, .slice t4.a t4.n t4.c])) W := by
  obtain ⟨i_0, i_1, i_2, i_3, i_4, i_5, i_6, i_7, i_8, i_9, i_10, i_11, i_12, i_13, i_14, i_c0, i_c1, i_c2, i_c3, i_c4, i_c5, i_c6, i_c7, i_c8, i_c9, i_c10, i_c11, i_c12, i_c13⟩ := FZ hq.out
  refine wpAnyH_ready (rs := [7]) (by kernel_rfl) (by simp) ?_
  refine AllReadyH.cons (o := { dst := none, op := Op.store 26 (Operand.tmp 8) (Operand.tmp 25), type := 0, pos := "law.go:16", after := #[{ on := 5, ground := Ground.data }, { on := 3, ground := Ground.data }, { on := 6, ground := Ground.chain }, { on := 0, ground := Ground.phase }, { on := 1, ground := Ground.phase }, { on := 2, ground := Ground.phase }, { on := 3, ground := Ground.phase }, { on := 4, ground := Ground.phase }, { on := 5, ground := Ground.phase }, { on := 6, ground := Ground.phase }], guard := none }) rfl (fun K hK => ?_) AllReadyH.nil
  go_simp
  have hb := Below.put14 hB.out hq.out.1 (.int .u16 (id' : Int)) (.bool rs') (.int .i64 op') (.bool aa') (.bool tc') (.bool rd') (.bool ra') (.bool ad') (.bool cd') (.int .i64 rc') (.slice t1.a t1.n t1.c) (.slice t2.a t2.n t2.c) (.slice t3.a t3.n t3.c) (.slice t4.a t4.n t4.c)
  refine hK.out _ _ (hS _ hb) (fun _ => wpAnyH_done (by kernel_rfl) ?_ _)
  refine hfin.out p q s1 s2 s3 s4 t1 t2 t3 t4 _ hp1 hq.out.1 ?_ (put14 hq.out.2 (.int .u16 (id' : Int)) (.bool rs') (.int .i64 op') (.bool aa') (.bool tc') (.bool rd') (.bool ra') (.bool ad') (.bool cd') (.int .i64 rc') (.slice t1.a t1.n t1.c) (.slice t2.a t2.n t2.c) (.slice t3.a t3.n t3.c) (.slice t4.a t4.n t4.c)) ?_ ?_ hb
  · rw [put14_other W q (.int .u16 (id' : Int)) (.bool rs') (.int .i64 op') (.bool aa') (.bool tc') (.bool rd') (.bool ra') (.bool ad') (.bool cd') (.int .i64 rc') (.slice t1.a t1.n t1.c) (.slice t2.a t2.n t2.c) (.slice t3.a t3.n t3.c) (.slice t4.a t4.n t4.c) p hpq]; exact hp.out
  · exact (hs.out.set q (.inr rfl) (size_set14 W q (.int .u16 (id' : Int)) (.bool rs') (.int .i64 op') (.bool aa') (.bool tc') (.bool rd') (.bool ra') (.bool ad') (.bool cd') (.int .i64 rc') (.slice t1.a t1.n t1.c) (.slice t2.a t2.n t2.c) (.slice t3.a t3.n t3.c) (.slice t4.a t4.n t4.c)) (put14_other W q (.int .u16 (id' : Int)) (.bool rs') (.int .i64 op') (.bool aa') (.bool tc') (.bool rd') (.bool ra') (.bool ad') (.bool cd') (.int .i64 rc') (.slice t1.a t1.n t1.c) (.slice t2.a t2.n t2.c) (.slice t3.a t3.n t3.c) (.slice t4.a t4.n t4.c))).mf
  · exact (ht.out.set q (.inr rfl) (size_set14 W q (.int .u16 (id' : Int)) (.bool rs') (.int .i64 op') (.bool aa') (.bool tc') (.bool rd') (.bool ra') (.bool ad') (.bool cd') (.int .i64 rc') (.slice t1.a t1.n t1.c) (.slice t2.a t2.n t2.c) (.slice t3.a t3.n t3.c) (.slice t4.a t4.n t4.c)) (put14_other W q (.int .u16 (id' : Int)) (.bool rs') (.int .i64 op') (.bool aa') (.bool tc') (.bool rd') (.bool ra') (.bool ad') (.bool cd') (.int .i64 rc') (.slice t1.a t1.n t1.c) (.slice t2.a t2.n t2.c) (.slice t3.a t3.n t3.c) (.slice t4.a t4.n t4.c))).mf
theorem st_211 {Q : Exit → Act → World → Prop} {S : World → Prop} {V : World} {c p0 p1 p2 : Value} {id : Nat} {rs : Bool} {op : Int} {aa tc rd ra ad cd : Bool} {rc : Int} {id' : Nat} {rs' : Bool} {op' : Int} {aa' tc' rd' ra' ad' cd' : Bool} {rc' : Int} {u1 u2 u3 u4 v1 v2 v3 v4 : Sl} {qs ps : List Qn} {r2 r3 r4 q2 q3 q4 : List Rec}
    (hS : ∀ W, Below V.heap.size V W → S W)
    (K1 : Hid (∀ W, Below V.heap.size V W → Calls Try.prog 9 #[.agg #[.int .u16 (id : Int), .bool rs, .int .i64 op, .bool aa, .bool tc, .bool rd, .bool ra, .bool ad, .bool cd, .int .i64 rc, .slice u1.a u1.n u1.c, .slice u2.a u2.n u2.c, .slice u3.a u3.n u3.c, .slice u4.a u4.n u4.c]] W fun e w' => ∃ s1 s2 s3 s4 : Sl, e = .returned (.agg #[.int .u16 (id : Int), .bool rs, .int .i64 op, .bool aa, .bool tc, .bool rd, .bool ra, .bool ad, .bool cd, .int .i64 rc, .slice s1.a s1.n s1.c, .slice s2.a s2.n s2.c, .slice s3.a s3.n s3.c, .slice s4.a s4.n s4.c]) ∧ Hid (Below W.heap.size W w' ∧ Cpy W.heap.size w'.heap.size w' s1 s2 s3 s4 qs r2 r3 r4)))
    (K2 : Hid (∀ W, Below V.heap.size V W → Calls Try.prog 9 #[.agg #[.int .u16 (id' : Int), .bool rs', .int .i64 op', .bool aa', .bool tc', .bool rd', .bool ra', .bool ad', .bool cd', .int .i64 rc', .slice v1.a v1.n v1.c, .slice v2.a v2.n v2.c, .slice v3.a v3.n v3.c, .slice v4.a v4.n v4.c]] W fun e w' => ∃ t1 t2 t3 t4 : Sl, e = .returned (.agg #[.int .u16 (id' : Int), .bool rs', .int .i64 op', .bool aa', .bool tc', .bool rd', .bool ra', .bool ad', .bool cd', .int .i64 rc', .slice t1.a t1.n t1.c, .slice t2.a t2.n t2.c, .slice t3.a t3.n t3.c, .slice t4.a t4.n t4.c]) ∧ Hid (Below W.heap.size W w' ∧ Cpy W.heap.size w'.heap.size w' t1 t2 t3 t4 ps q2 q3 q4)))
    (hfin : Hid (∀ (p q : Nat) (s1 s2 s3 s4 t1 t2 t3 t4 : Sl) (W : World), V.heap.size ≤ p → V.heap.size ≤ q → W.heap[p]? = some (.cells #[.int .u16 (id : Int), .bool rs, .int .i64 op, .bool aa, .bool tc, .bool rd, .bool ra, .bool ad, .bool cd, .int .i64 rc, .slice s1.a s1.n s1.c, .slice s2.a s2.n s2.c, .slice s3.a s3.n s3.c, .slice s4.a s4.n s4.c] 26) → W.heap[q]? = some (.cells #[.int .u16 (id' : Int), .bool rs', .int .i64 op', .bool aa', .bool tc', .bool rd', .bool ra', .bool ad', .bool cd', .int .i64 rc', .slice t1.a t1.n t1.c, .slice t2.a t2.n t2.c, .slice t3.a t3.n t3.c, .slice t4.a t4.n t4.c] 26) → MF W s1 s2 s3 s4 qs r2 r3 r4 → MF W t1 t2 t3 t4 ps q2 q3 q4 → Below V.heap.size V W → Q .normal (AT (.agg #[.int .u16 (id : Int), .bool rs, .int .i64 op, .bool aa, .bool tc, .bool rd, .bool ra, .bool ad, .bool cd, .int .i64 rc, .slice u1.a u1.n u1.c, .slice u2.a u2.n u2.c, .slice u3.a u3.n u3.c, .slice u4.a u4.n u4.c]) (.agg #[.int .u16 (id' : Int), .bool rs', .int .i64 op', .bool aa', .bool tc', .bool rd', .bool ra', .bool ad', .bool cd', .int .i64 rc', .slice v1.a v1.n v1.c, .slice v2.a v2.n v2.c, .slice v3.a v3.n v3.c, .slice v4.a v4.n v4.c]) c p0 p1 p2 (ptr p) (ptr q) (.agg #[.int .u16 (id : Int), .bool rs, .int .i64 op, .bool aa, .bool tc, .bool rd, .bool ra, .bool ad, .bool cd, .int .i64 rc, .slice u1.a u1.n u1.c, .slice u2.a u2.n u2.c, .slice u3.a u3.n u3.c, .slice u4.a u4.n u4.c]) (.agg #[.int .u16 (id : Int), .bool rs, .int .i64 op, .bool aa, .bool tc, .bool rd, .bool ra, .bool ad, .bool cd, .int .i64 rc, .slice s1.a s1.n s1.c, .slice s2.a s2.n s2.c, .slice s3.a s3.n s3.c, .slice s4.a s4.n s4.c]) (.agg #[.int .u16 (id' : Int), .bool rs', .int .i64 op', .bool aa', .bool tc', .bool rd', .bool ra', .bool ad', .bool cd', .int .i64 rc', .slice v1.a v1.n v1.c, .slice v2.a v2.n v2.c, .slice v3.a v3.n v3.c, .slice v4.a v4.n v4.c]) (.agg #[.int .u16 (id' : Int), .bool rs', .int .i64 op', .bool aa', .bool tc', .bool rd', .bool ra', .bool ad', .bool cd', .int .i64 rc', .slice t1.a t1.n t1.c, .slice t2.a t2.n t2.c, .slice t3.a t3.n t3.c, .slice t4.a t4.n t4.c])) W)) (W : World) (hB : Hid (Below V.heap.size V W)) (p : Nat) (hp : Hid (Bxz V W p)) (q : Nat) (hq : Hid (Bxz V W q)) (hpq : p ≠ q) (s1 s2 s3 s4 : Sl) (hs : Hid (CpP V W (some p) (some q) s1 s2 s3 s4 qs r2 r3 r4)) (t1 t2 t3 t4 : Sl) (ht : Hid (CpP V W (some p) (some q) t1 t2 t3 t4 ps q2 q3 q4)) :
    wpAnyH Try.prog .any ops3 Q S 2 #[true, true, true, true, true, true, false, false] (AT (.agg #[.int .u16 (id : Int), .bool rs, .int .i64 op, .bool aa, .bool tc, .bool rd, .bool ra, .bool ad, .bool cd, .int .i64 rc, .slice u1.a u1.n u1.c, .slice u2.a u2.n u2.c, .slice u3.a u3.n u3.c, .slice u4.a u4.n u4.c]) (.agg #[.int .u16 (id' : Int), .bool rs', .int .i64 op', .bool aa', .bool tc', .bool rd', .bool ra', .bool ad', .bool cd', .int .i64 rc', .slice v1.a v1.n v1.c, .slice v2.a v2.n v2.c, .slice v3.a v3.n v3.c, .slice v4.a v4.n v4.c]) c p0 p1 p2 (ptr p) (ptr q) (.agg #[.int .u16 (id : Int), .bool rs, .int .i64 op, .bool aa, .bool tc, .bool rd, .bool ra, .bool ad, .bool cd, .int .i64 rc, .slice u1.a u1.n u1.c, .slice u2.a u2.n u2.c, .slice u3.a u3.n u3.c, .slice u4.a u4.n u4.c]) (.agg #[.int .u16 (id : Int), .bool rs, .int .i64 op, .bool aa, .bool tc, .bool rd, .bool ra, .bool ad, .bool cd, .int .i64 rc, .slice s1.a s1.n s1.c, .slice s2.a s2.n s2.c, .slice s3.a s3.n s3.c, .slice s4.a s4.n s4.c]) (.agg #[.int .u16 (id' : Int), .bool rs', .int .i64 op', .bool aa', .bool tc', .bool rd', .bool ra', .bool ad', .bool cd', .int .i64 rc', .slice v1.a v1.n v1.c, .slice v2.a v2.n v2.c, .slice v3.a v3.n v3.c, .slice v4.a v4.n v4.c]) (.agg #[.int .u16 (id' : Int), .bool rs', .int .i64 op', .bool aa', .bool tc', .bool rd', .bool ra', .bool ad', .bool cd', .int .i64 rc', .slice t1.a t1.n t1.c, .slice t2.a t2.n t2.c, .slice t3.a t3.n t3.c, .slice t4.a t4.n t4.c])) W := by
  obtain ⟨i_0, i_1, i_2, i_3, i_4, i_5, i_6, i_7, i_8, i_9, i_10, i_11, i_12, i_13, i_14, i_c0, i_c1, i_c2, i_c3, i_c4, i_c5, i_c6, i_c7, i_c8, i_c9, i_c10, i_c11, i_c12, i_c13⟩ := FZ hp.out
  refine wpAnyH_ready (rs := [6]) (by kernel_rfl) (by simp) ?_
  refine AllReadyH.cons (o := { dst := none, op := Op.store 26 (Operand.tmp 7) (Operand.tmp 23), type := 0, pos := "law.go:16", after := #[{ on := 4, ground := Ground.data }, { on := 1, ground := Ground.data }, { on := 3, ground := Ground.chain }, { on := 0, ground := Ground.phase }, { on := 1, ground := Ground.phase }, { on := 2, ground := Ground.textOnly Departure.lateStores }, { on := 3, ground := Ground.textOnly Departure.lateStoresUnsure }, { on := 4, ground := Ground.phase }, { on := 5, ground := Ground.phase }], guard := none }) rfl (fun K hK => ?_) AllReadyH.nil
  go_simp
  have hb := Below.put14 hB.out hp.out.1 (.int .u16 (id : Int)) (.bool rs) (.int .i64 op) (.bool aa) (.bool tc) (.bool rd) (.bool ra) (.bool ad) (.bool cd) (.int .i64 rc) (.slice s1.a s1.n s1.c) (.slice s2.a s2.n s2.c) (.slice s3.a s3.n s3.c) (.slice s4.a s4.n s4.c)
  refine hK.out _ _ (hS _ hb) (fun _ => ?_)
  refine st_last hS K1 K2 hfin _ hb p hp.out.1 s1 s2 s3 s4 (put14 hp.out.2 (.int .u16 (id : Int)) (.bool rs) (.int .i64 op) (.bool aa) (.bool tc) (.bool rd) (.bool ra) (.bool ad) (.bool cd) (.int .i64 rc) (.slice s1.a s1.n s1.c) (.slice s2.a s2.n s2.c) (.slice s3.a s3.n s3.c) (.slice s4.a s4.n s4.c)) q ⟨hq.out.1, ?_⟩ hpq (hs.out.set p (.inl rfl) (size_set14 W p (.int .u16 (id : Int)) (.bool rs) (.int .i64 op) (.bool aa) (.bool tc) (.bool rd) (.bool ra) (.bool ad) (.bool cd) (.int .i64 rc) (.slice s1.a s1.n s1.c) (.slice s2.a s2.n s2.c) (.slice s3.a s3.n s3.c) (.slice s4.a s4.n s4.c)) (put14_other W p (.int .u16 (id : Int)) (.bool rs) (.int .i64 op) (.bool aa) (.bool tc) (.bool rd) (.bool ra) (.bool ad) (.bool cd) (.int .i64 rc) (.slice s1.a s1.n s1.c) (.slice s2.a s2.n s2.c) (.slice s3.a s3.n s3.c) (.slice s4.a s4.n s4.c))) t1 t2 t3 t4 (ht.out.set p (.inl rfl) (size_set14 W p (.int .u16 (id : Int)) (.bool rs) (.int .i64 op) (.bool aa) (.bool tc) (.bool rd) (.bool ra) (.bool ad) (.bool cd) (.int .i64 rc) (.slice s1.a s1.n s1.c) (.slice s2.a s2.n s2.c) (.slice s3.a s3.n s3.c) (.slice s4.a s4.n s4.c)) (put14_other W p (.int .u16 (id : Int)) (.bool rs) (.int .i64 op) (.bool aa) (.bool tc) (.bool rd) (.bool ra) (.bool ad) (.bool cd) (.int .i64 rc) (.slice s1.a s1.n s1.c) (.slice s2.a s2.n s2.c) (.slice s3.a s3.n s3.c) (.slice s4.a s4.n s4.c)))
  rw [put14_other W p (.int .u16 (id : Int)) (.bool rs) (.int .i64 op) (.bool aa) (.bool tc) (.bool rd) (.bool ra) (.bool ad) (.bool cd) (.int .i64 rc) (.slice s1.a s1.n s1.c) (.slice s2.a s2.n s2.c) (.slice s3.a s3.n s3.c) (.slice s4.a s4.n s4.c) q (fun e => hpq e.symm)]; exact hq.out.2
theorem st_210 {Q : Exit → Act → World → Prop} {S : World → Prop} {V : World} {c p0 p1 p2 : Value} {id : Nat} {rs : Bool} {op : Int} {aa tc rd ra ad cd : Bool} {rc : Int} {id' : Nat} {rs' : Bool} {op' : Int} {aa' tc' rd' ra' ad' cd' : Bool} {rc' : Int} {u1 u2 u3 u4 v1 v2 v3 v4 : Sl} {qs ps : List Qn} {r2 r3 r4 q2 q3 q4 : List Rec}
    (hS : ∀ W, Below V.heap.size V W → S W)
    (K1 : Hid (∀ W, Below V.heap.size V W → Calls Try.prog 9 #[.agg #[.int .u16 (id : Int), .bool rs, .int .i64 op, .bool aa, .bool tc, .bool rd, .bool ra, .bool ad, .bool cd, .int .i64 rc, .slice u1.a u1.n u1.c, .slice u2.a u2.n u2.c, .slice u3.a u3.n u3.c, .slice u4.a u4.n u4.c]] W fun e w' => ∃ s1 s2 s3 s4 : Sl, e = .returned (.agg #[.int .u16 (id : Int), .bool rs, .int .i64 op, .bool aa, .bool tc, .bool rd, .bool ra, .bool ad, .bool cd, .int .i64 rc, .slice s1.a s1.n s1.c, .slice s2.a s2.n s2.c, .slice s3.a s3.n s3.c, .slice s4.a s4.n s4.c]) ∧ Hid (Below W.heap.size W w' ∧ Cpy W.heap.size w'.heap.size w' s1 s2 s3 s4 qs r2 r3 r4)))
    (K2 : Hid (∀ W, Below V.heap.size V W → Calls Try.prog 9 #[.agg #[.int .u16 (id' : Int), .bool rs', .int .i64 op', .bool aa', .bool tc', .bool rd', .bool ra', .bool ad', .bool cd', .int .i64 rc', .slice v1.a v1.n v1.c, .slice v2.a v2.n v2.c, .slice v3.a v3.n v3.c, .slice v4.a v4.n v4.c]] W fun e w' => ∃ t1 t2 t3 t4 : Sl, e = .returned (.agg #[.int .u16 (id' : Int), .bool rs', .int .i64 op', .bool aa', .bool tc', .bool rd', .bool ra', .bool ad', .bool cd', .int .i64 rc', .slice t1.a t1.n t1.c, .slice t2.a t2.n t2.c, .slice t3.a t3.n t3.c, .slice t4.a t4.n t4.c]) ∧ Hid (Below W.heap.size W w' ∧ Cpy W.heap.size w'.heap.size w' t1 t2 t3 t4 ps q2 q3 q4)))
    (hfin : Hid (∀ (p q : Nat) (s1 s2 s3 s4 t1 t2 t3 t4 : Sl) (W : World), V.heap.size ≤ p → V.heap.size ≤ q → W.heap[p]? = some (.cells #[.int .u16 (id : Int), .bool rs, .int .i64 op, .bool aa, .bool tc, .bool rd, .bool ra, .bool ad, .bool cd, .int .i64 rc, .slice s1.a s1.n s1.c, .slice s2.a s2.n s2.c, .slice s3.a s3.n s3.c, .slice s4.a s4.n s4.c] 26) → W.heap[q]? = some (.cells #[.int .u16 (id' : Int), .bool rs', .int .i64 op', .bool aa', .bool tc', .bool rd', .bool ra', .bool ad', .bool cd', .int .i64 rc', .slice t1.a t1.n t1.c, .slice t2.a t2.n t2.c, .slice t3.a t3.n t3.c, .slice t4.a t4.n t4.c] 26) → MF W s1 s2 s3 s4 qs r2 r3 r4 → MF W t1 t2 t3 t4 ps q2 q3 q4 → Below V.heap.size V W → Q .normal (AT (.agg #[.int .u16 (id : Int), .bool rs, .int .i64 op, .bool aa, .bool tc, .bool rd, .bool ra, .bool ad, .bool cd, .int .i64 rc, .slice u1.a u1.n u1.c, .slice u2.a u2.n u2.c, .slice u3.a u3.n u3.c, .slice u4.a u4.n u4.c]) (.agg #[.int .u16 (id' : Int), .bool rs', .int .i64 op', .bool aa', .bool tc', .bool rd', .bool ra', .bool ad', .bool cd', .int .i64 rc', .slice v1.a v1.n v1.c, .slice v2.a v2.n v2.c, .slice v3.a v3.n v3.c, .slice v4.a v4.n v4.c]) c p0 p1 p2 (ptr p) (ptr q) (.agg #[.int .u16 (id : Int), .bool rs, .int .i64 op, .bool aa, .bool tc, .bool rd, .bool ra, .bool ad, .bool cd, .int .i64 rc, .slice u1.a u1.n u1.c, .slice u2.a u2.n u2.c, .slice u3.a u3.n u3.c, .slice u4.a u4.n u4.c]) (.agg #[.int .u16 (id : Int), .bool rs, .int .i64 op, .bool aa, .bool tc, .bool rd, .bool ra, .bool ad, .bool cd, .int .i64 rc, .slice s1.a s1.n s1.c, .slice s2.a s2.n s2.c, .slice s3.a s3.n s3.c, .slice s4.a s4.n s4.c]) (.agg #[.int .u16 (id' : Int), .bool rs', .int .i64 op', .bool aa', .bool tc', .bool rd', .bool ra', .bool ad', .bool cd', .int .i64 rc', .slice v1.a v1.n v1.c, .slice v2.a v2.n v2.c, .slice v3.a v3.n v3.c, .slice v4.a v4.n v4.c]) (.agg #[.int .u16 (id' : Int), .bool rs', .int .i64 op', .bool aa', .bool tc', .bool rd', .bool ra', .bool ad', .bool cd', .int .i64 rc', .slice t1.a t1.n t1.c, .slice t2.a t2.n t2.c, .slice t3.a t3.n t3.c, .slice t4.a t4.n t4.c])) W)) (W : World) (hB : Hid (Below V.heap.size V W)) (p : Nat) (hp : Hid (Bxz V W p)) (s1 s2 s3 s4 : Sl) (hs : Hid (CpP V W (some p) none s1 s2 s3 s4 qs r2 r3 r4)) (t1 t2 t3 t4 : Sl) (ht : Hid (CpP V W (some p) none t1 t2 t3 t4 ps q2 q3 q4)) :
    wpAnyH Try.prog .any ops3 Q S 3 #[true, true, true, true, true, false, false, false] (AT (.agg #[.int .u16 (id : Int), .bool rs, .int .i64 op, .bool aa, .bool tc, .bool rd, .bool ra, .bool ad, .bool cd, .int .i64 rc, .slice u1.a u1.n u1.c, .slice u2.a u2.n u2.c, .slice u3.a u3.n u3.c, .slice u4.a u4.n u4.c]) (.agg #[.int .u16 (id' : Int), .bool rs', .int .i64 op', .bool aa', .bool tc', .bool rd', .bool ra', .bool ad', .bool cd', .int .i64 rc', .slice v1.a v1.n v1.c, .slice v2.a v2.n v2.c, .slice v3.a v3.n v3.c, .slice v4.a v4.n v4.c]) c p0 p1 p2 (ptr p) undef (.agg #[.int .u16 (id : Int), .bool rs, .int .i64 op, .bool aa, .bool tc, .bool rd, .bool ra, .bool ad, .bool cd, .int .i64 rc, .slice u1.a u1.n u1.c, .slice u2.a u2.n u2.c, .slice u3.a u3.n u3.c, .slice u4.a u4.n u4.c]) (.agg #[.int .u16 (id : Int), .bool rs, .int .i64 op, .bool aa, .bool tc, .bool rd, .bool ra, .bool ad, .bool cd, .int .i64 rc, .slice s1.a s1.n s1.c, .slice s2.a s2.n s2.c, .slice s3.a s3.n s3.c, .slice s4.a s4.n s4.c]) (.agg #[.int .u16 (id' : Int), .bool rs', .int .i64 op', .bool aa', .bool tc', .bool rd', .bool ra', .bool ad', .bool cd', .int .i64 rc', .slice v1.a v1.n v1.c, .slice v2.a v2.n v2.c, .slice v3.a v3.n v3.c, .slice v4.a v4.n v4.c]) (.agg #[.int .u16 (id' : Int), .bool rs', .int .i64 op', .bool aa', .bool tc', .bool rd', .bool ra', .bool ad', .bool cd', .int .i64 rc', .slice t1.a t1.n t1.c, .slice t2.a t2.n t2.c, .slice t3.a t3.n t3.c, .slice t4.a t4.n t4.c])) W := by
  have lp := block_lt hp.out.2
  refine wpAnyH_ready (rs := [5]) (by kernel_rfl) (by simp) ?_
  refine AllReadyH.cons (o := { dst := some 8, op := Op.alloc 26, type := 0, pos := "law.go:16", after := #[], guard := none }) rfl (fun K hK => ?_) ?_
  · go_simp
    have hal : Below W.heap.size W (W.alloc (.cells #[.int .u16 0, .bool false, .int .i64 0, .bool false, .bool false, .bool false, .bool false, .bool false, .bool false, .int .i64 0, .slice none 0 0, .slice none 0 0, .slice none 0 0, .slice none 0 0] 26)) := (Below.refl _ W).alloc (Nat.le_refl _) _
    have hb : Below V.heap.size V (W.alloc (.cells #[.int .u16 0, .bool false, .int .i64 0, .bool false, .bool false, .bool false, .bool false, .bool false, .bool false, .int .i64 0, .slice none 0 0, .slice none 0 0, .slice none 0 0, .slice none 0 0] 26)) := hB.out.trans (hal.mono hB.out.size)
    refine hK.out _ _ (hS _ hb) (fun _ => ?_)
    exact st_211 hS K1 K2 hfin _ hb p (hp.out.go hal) W.heap.size (Bxz.new hB.out) (by omega) s1 s2 s3 s4 (hs.out.q hal) t1 t2 t3 t4 (ht.out.q hal)
  exact AllReadyH.nil
theorem st_201 {Q : Exit → Act → World → Prop} {S : World → Prop} {V : World} {c p0 p1 p2 : Value} {id : Nat} {rs : Bool} {op : Int} {aa tc rd ra ad cd : Bool} {rc : Int} {id' : Nat} {rs' : Bool} {op' : Int} {aa' tc' rd' ra' ad' cd' : Bool} {rc' : Int} {u1 u2 u3 u4 v1 v2 v3 v4 : Sl} {qs ps : List Qn} {r2 r3 r4 q2 q3 q4 : List Rec}
    (hS : ∀ W, Below V.heap.size V W → S W)
    (K1 : Hid (∀ W, Below V.heap.size V W → Calls Try.prog 9 #[.agg #[.int .u16 (id : Int), .bool rs, .int .i64 op, .bool aa, .bool tc, .bool rd, .bool ra, .bool ad, .bool cd, .int .i64 rc, .slice u1.a u1.n u1.c, .slice u2.a u2.n u2.c, .slice u3.a u3.n u3.c, .slice u4.a u4.n u4.c]] W fun e w' => ∃ s1 s2 s3 s4 : Sl, e = .returned (.agg #[.int .u16 (id : Int), .bool rs, .int .i64 op, .bool aa, .bool tc, .bool rd, .bool ra, .bool ad, .bool cd, .int .i64 rc, .slice s1.a s1.n s1.c, .slice s2.a s2.n s2.c, .slice s3.a s3.n s3.c, .slice s4.a s4.n s4.c]) ∧ Hid (Below W.heap.size W w' ∧ Cpy W.heap.size w'.heap.size w' s1 s2 s3 s4 qs r2 r3 r4)))
    (K2 : Hid (∀ W, Below V.heap.size V W → Calls Try.prog 9 #[.agg #[.int .u16 (id' : Int), .bool rs', .int .i64 op', .bool aa', .bool tc', .bool rd', .bool ra', .bool ad', .bool cd', .int .i64 rc', .slice v1.a v1.n v1.c, .slice v2.a v2.n v2.c, .slice v3.a v3.n v3.c, .slice v4.a v4.n v4.c]] W fun e w' => ∃ t1 t2 t3 t4 : Sl, e = .returned (.agg #[.int .u16 (id' : Int), .bool rs', .int .i64 op', .bool aa', .bool tc', .bool rd', .bool ra', .bool ad', .bool cd', .int .i64 rc', .slice t1.a t1.n t1.c, .slice t2.a t2.n t2.c, .slice t3.a t3.n t3.c, .slice t4.a t4.n t4.c]) ∧ Hid (Below W.heap.size W w' ∧ Cpy W.heap.size w'.heap.size w' t1 t2 t3 t4 ps q2 q3 q4)))
    (hfin : Hid (∀ (p q : Nat) (s1 s2 s3 s4 t1 t2 t3 t4 : Sl) (W : World), V.heap.size ≤ p → V.heap.size ≤ q → W.heap[p]? = some (.cells #[.int .u16 (id : Int), .bool rs, .int .i64 op, .bool aa, .bool tc, .bool rd, .bool ra, .bool ad, .bool cd, .int .i64 rc, .slice s1.a s1.n s1.c, .slice s2.a s2.n s2.c, .slice s3.a s3.n s3.c, .slice s4.a s4.n s4.c] 26) → W.heap[q]? = some (.cells #[.int .u16 (id' : Int), .bool rs', .int .i64 op', .bool aa', .bool tc', .bool rd', .bool ra', .bool ad', .bool cd', .int .i64 rc', .slice t1.a t1.n t1.c, .slice t2.a t2.n t2.c, .slice t3.a t3.n t3.c, .slice t4.a t4.n t4.c] 26) → MF W s1 s2 s3 s4 qs r2 r3 r4 → MF W t1 t2 t3 t4 ps q2 q3 q4 → Below V.heap.size V W → Q .normal (AT (.agg #[.int .u16 (id : Int), .bool rs, .int .i64 op, .bool aa, .bool tc, .bool rd, .bool ra, .bool ad, .bool cd, .int .i64 rc, .slice u1.a u1.n u1.c, .slice u2.a u2.n u2.c, .slice u3.a u3.n u3.c, .slice u4.a u4.n u4.c]) (.agg #[.int .u16 (id' : Int), .bool rs', .int .i64 op', .bool aa', .bool tc', .bool rd', .bool ra', .bool ad', .bool cd', .int .i64 rc', .slice v1.a v1.n v1.c, .slice v2.a v2.n v2.c, .slice v3.a v3.n v3.c, .slice v4.a v4.n v4.c]) c p0 p1 p2 (ptr p) (ptr q) (.agg #[.int .u16 (id : Int), .bool rs, .int .i64 op, .bool aa, .bool tc, .bool rd, .bool ra, .bool ad, .bool cd, .int .i64 rc, .slice u1.a u1.n u1.c, .slice u2.a u2.n u2.c, .slice u3.a u3.n u3.c, .slice u4.a u4.n u4.c]) (.agg #[.int .u16 (id : Int), .bool rs, .int .i64 op, .bool aa, .bool tc, .bool rd, .bool ra, .bool ad, .bool cd, .int .i64 rc, .slice s1.a s1.n s1.c, .slice s2.a s2.n s2.c, .slice s3.a s3.n s3.c, .slice s4.a s4.n s4.c]) (.agg #[.int .u16 (id' : Int), .bool rs', .int .i64 op', .bool aa', .bool tc', .bool rd', .bool ra', .bool ad', .bool cd', .int .i64 rc', .slice v1.a v1.n v1.c, .slice v2.a v2.n v2.c, .slice v3.a v3.n v3.c, .slice v4.a v4.n v4.c]) (.agg #[.int .u16 (id' : Int), .bool rs', .int .i64 op', .bool aa', .bool tc', .bool rd', .bool ra', .bool ad', .bool cd', .int .i64 rc', .slice t1.a t1.n t1.c, .slice t2.a t2.n t2.c, .slice t3.a t3.n t3.c, .slice t4.a t4.n t4.c])) W)) (W : World) (hB : Hid (Below V.heap.size V W)) (q : Nat) (hq : Hid (Bxz V W q)) (s1 s2 s3 s4 : Sl) (hs : Hid (CpP V W none (some q) s1 s2 s3 s4 qs r2 r3 r4)) (t1 t2 t3 t4 : Sl) (ht : Hid (CpP V W none (some q) t1 t2 t3 t4 ps q2 q3 q4)) :
    wpAnyH Try.prog .any ops3 Q S 3 #[true, true, true, true, false, true, false, false] (AT (.agg #[.int .u16 (id : Int), .bool rs, .int .i64 op, .bool aa, .bool tc, .bool rd, .bool ra, .bool ad, .bool cd, .int .i64 rc, .slice u1.a u1.n u1.c, .slice u2.a u2.n u2.c, .slice u3.a u3.n u3.c, .slice u4.a u4.n u4.c]) (.agg #[.int .u16 (id' : Int), .bool rs', .int .i64 op', .bool aa', .bool tc', .bool rd', .bool ra', .bool ad', .bool cd', .int .i64 rc', .slice v1.a v1.n v1.c, .slice v2.a v2.n v2.c, .slice v3.a v3.n v3.c, .slice v4.a v4.n v4.c]) c p0 p1 p2 undef (ptr q) (.agg #[.int .u16 (id : Int), .bool rs, .int .i64 op, .bool aa, .bool tc, .bool rd, .bool ra, .bool ad, .bool cd, .int .i64 rc, .slice u1.a u1.n u1.c, .slice u2.a u2.n u2.c, .slice u3.a u3.n u3.c, .slice u4.a u4.n u4.c]) (.agg #[.int .u16 (id : Int), .bool rs, .int .i64 op, .bool aa, .bool tc, .bool rd, .bool ra, .bool ad, .bool cd, .int .i64 rc, .slice s1.a s1.n s1.c, .slice s2.a s2.n s2.c, .slice s3.a s3.n s3.c, .slice s4.a s4.n s4.c]) (.agg #[.int .u16 (id' : Int), .bool rs', .int .i64 op', .bool aa', .bool tc', .bool rd', .bool ra', .bool ad', .bool cd', .int .i64 rc', .slice v1.a v1.n v1.c, .slice v2.a v2.n v2.c, .slice v3.a v3.n v3.c, .slice v4.a v4.n v4.c]) (.agg #[.int .u16 (id' : Int), .bool rs', .int .i64 op', .bool aa', .bool tc', .bool rd', .bool ra', .bool ad', .bool cd', .int .i64 rc', .slice t1.a t1.n t1.c, .slice t2.a t2.n t2.c, .slice t3.a t3.n t3.c, .slice t4.a t4.n t4.c])) W := by
  have lq := block_lt hq.out.2
  refine wpAnyH_ready (rs := [4]) (by kernel_rfl) (by simp) ?_
  refine AllReadyH.cons (o := { dst := some 7, op := Op.alloc 26, type := 0, pos := "law.go:16", after := #[], guard := none }) rfl (fun K hK => ?_) ?_
  · go_simp
    have hal : Below W.heap.size W (W.alloc (.cells #[.int .u16 0, .bool false, .int .i64 0, .bool false, .bool false, .bool false, .bool false, .bool false, .bool false, .int .i64 0, .slice none 0 0, .slice none 0 0, .slice none 0 0, .slice none 0 0] 26)) := (Below.refl _ W).alloc (Nat.le_refl _) _
    have hb : Below V.heap.size V (W.alloc (.cells #[.int .u16 0, .bool false, .int .i64 0, .bool false, .bool false, .bool false, .bool false, .bool false, .bool false, .int .i64 0, .slice none 0 0, .slice none 0 0, .slice none 0 0, .slice none 0 0] 26)) := hB.out.trans (hal.mono hB.out.size)
    refine hK.out _ _ (hS _ hb) (fun _ => ?_)
    exact st_211 hS K1 K2 hfin _ hb W.heap.size (Bxz.new hB.out) q (hq.out.go hal) (by omega) s1 s2 s3 s4 (hs.out.p hal) t1 t2 t3 t4 (ht.out.p hal)
  exact AllReadyH.nil
theorem st_200 {Q : Exit → Act → World → Prop} {S : World → Prop} {V : World} {c p0 p1 p2 : Value} {id : Nat} {rs : Bool} {op : Int} {aa tc rd ra ad cd : Bool} {rc : Int} {id' : Nat} {rs' : Bool} {op' : Int} {aa' tc' rd' ra' ad' cd' : Bool} {rc' : Int} {u1 u2 u3 u4 v1 v2 v3 v4 : Sl} {qs ps : List Qn} {r2 r3 r4 q2 q3 q4 : List Rec}
    (hS : ∀ W, Below V.heap.size V W → S W)
    (K1 : Hid (∀ W, Below V.heap.size V W → Calls Try.prog 9 #[.agg #[.int .u16 (id : Int), .bool rs, .int .i64 op, .bool aa, .bool tc, .bool rd, .bool ra, .bool ad, .bool cd, .int .i64 rc, .slice u1.a u1.n u1.c, .slice u2.a u2.n u2.c, .slice u3.a u3.n u3.c, .slice u4.a u4.n u4.c]] W fun e w' => ∃ s1 s2 s3 s4 : Sl, e = .returned (.agg #[.int .u16 (id : Int), .bool rs, .int .i64 op, .bool aa, .bool tc, .bool rd, .bool ra, .bool ad, .bool cd, .int .i64 rc, .slice s1.a s1.n s1.c, .slice s2.a s2.n s2.c, .slice s3.a s3.n s3.c, .slice s4.a s4.n s4.c]) ∧ Hid (Below W.heap.size W w' ∧ Cpy W.heap.size w'.heap.size w' s1 s2 s3 s4 qs r2 r3 r4)))
    (K2 : Hid (∀ W, Below V.heap.size V W → Calls Try.prog 9 #[.agg #[.int .u16 (id' : Int), .bool rs', .int .i64 op', .bool aa', .bool tc', .bool rd', .bool ra', .bool ad', .bool cd', .int .i64 rc', .slice v1.a v1.n v1.c, .slice v2.a v2.n v2.c, .slice v3.a v3.n v3.c, .slice v4.a v4.n v4.c]] W fun e w' => ∃ t1 t2 t3 t4 : Sl, e = .returned (.agg #[.int .u16 (id' : Int), .bool rs', .int .i64 op', .bool aa', .bool tc', .bool rd', .bool ra', .bool ad', .bool cd', .int .i64 rc', .slice t1.a t1.n t1.c, .slice t2.a t2.n t2.c, .slice t3.a t3.n t3.c, .slice t4.a t4.n t4.c]) ∧ Hid (Below W.heap.size W w' ∧ Cpy W.heap.size w'.heap.size w' t1 t2 t3 t4 ps q2 q3 q4)))
    (hfin : Hid (∀ (p q : Nat) (s1 s2 s3 s4 t1 t2 t3 t4 : Sl) (W : World), V.heap.size ≤ p → V.heap.size ≤ q → W.heap[p]? = some (.cells #[.int .u16 (id : Int), .bool rs, .int .i64 op, .bool aa, .bool tc, .bool rd, .bool ra, .bool ad, .bool cd, .int .i64 rc, .slice s1.a s1.n s1.c, .slice s2.a s2.n s2.c, .slice s3.a s3.n s3.c, .slice s4.a s4.n s4.c] 26) → W.heap[q]? = some (.cells #[.int .u16 (id' : Int), .bool rs', .int .i64 op', .bool aa', .bool tc', .bool rd', .bool ra', .bool ad', .bool cd', .int .i64 rc', .slice t1.a t1.n t1.c, .slice t2.a t2.n t2.c, .slice t3.a t3.n t3.c, .slice t4.a t4.n t4.c] 26) → MF W s1 s2 s3 s4 qs r2 r3 r4 → MF W t1 t2 t3 t4 ps q2 q3 q4 → Below V.heap.size V W → Q .normal (AT (.agg #[.int .u16 (id : Int), .bool rs, .int .i64 op, .bool aa, .bool tc, .bool rd, .bool ra, .bool ad, .bool cd, .int .i64 rc, .slice u1.a u1.n u1.c, .slice u2.a u2.n u2.c, .slice u3.a u3.n u3.c, .slice u4.a u4.n u4.c]) (.agg #[.int .u16 (id' : Int), .bool rs', .int .i64 op', .bool aa', .bool tc', .bool rd', .bool ra', .bool ad', .bool cd', .int .i64 rc', .slice v1.a v1.n v1.c, .slice v2.a v2.n v2.c, .slice v3.a v3.n v3.c, .slice v4.a v4.n v4.c]) c p0 p1 p2 (ptr p) (ptr q) (.agg #[.int .u16 (id : Int), .bool rs, .int .i64 op, .bool aa, .bool tc, .bool rd, .bool ra, .bool ad, .bool cd, .int .i64 rc, .slice u1.a u1.n u1.c, .slice u2.a u2.n u2.c, .slice u3.a u3.n u3.c, .slice u4.a u4.n u4.c]) (.agg #[.int .u16 (id : Int), .bool rs, .int .i64 op, .bool aa, .bool tc, .bool rd, .bool ra, .bool ad, .bool cd, .int .i64 rc, .slice s1.a s1.n s1.c, .slice s2.a s2.n s2.c, .slice s3.a s3.n s3.c, .slice s4.a s4.n s4.c]) (.agg #[.int .u16 (id' : Int), .bool rs', .int .i64 op', .bool aa', .bool tc', .bool rd', .bool ra', .bool ad', .bool cd', .int .i64 rc', .slice v1.a v1.n v1.c, .slice v2.a v2.n v2.c, .slice v3.a v3.n v3.c, .slice v4.a v4.n v4.c]) (.agg #[.int .u16 (id' : Int), .bool rs', .int .i64 op', .bool aa', .bool tc', .bool rd', .bool ra', .bool ad', .bool cd', .int .i64 rc', .slice t1.a t1.n t1.c, .slice t2.a t2.n t2.c, .slice t3.a t3.n t3.c, .slice t4.a t4.n t4.c])) W)) (W : World) (hB : Hid (Below V.heap.size V W)) (s1 s2 s3 s4 : Sl) (hs : Hid (CpP V W none none s1 s2 s3 s4 qs r2 r3 r4)) (t1 t2 t3 t4 : Sl) (ht : Hid (CpP V W none none t1 t2 t3 t4 ps q2 q3 q4)) :
    wpAnyH Try.prog .any ops3 Q S 4 #[true, true, true, true, false, false, false, false] (AT (.agg #[.int .u16 (id : Int), .bool rs, .int .i64 op, .bool aa, .bool tc, .bool rd, .bool ra, .bool ad, .bool cd, .int .i64 rc, .slice u1.a u1.n u1.c, .slice u2.a u2.n u2.c, .slice u3.a u3.n u3.c, .slice u4.a u4.n u4.c]) (.agg #[.int .u16 (id' : Int), .bool rs', .int .i64 op', .bool aa', .bool tc', .bool rd', .bool ra', .bool ad', .bool cd', .int .i64 rc', .slice v1.a v1.n v1.c, .slice v2.a v2.n v2.c, .slice v3.a v3.n v3.c, .slice v4.a v4.n v4.c]) c p0 p1 p2 undef undef (.agg #[.int .u16 (id : Int), .bool rs, .int .i64 op, .bool aa, .bool tc, .bool rd, .bool ra, .bool ad, .bool cd, .int .i64 rc, .slice u1.a u1.n u1.c, .slice u2.a u2.n u2.c, .slice u3.a u3.n u3.c, .slice u4.a u4.n u4.c]) (.agg #[.int .u16 (id : Int), .bool rs, .int .i64 op, .bool aa, .bool tc, .bool rd, .bool ra, .bool ad, .bool cd, .int .i64 rc, .slice s1.a s1.n s1.c, .slice s2.a s2.n s2.c, .slice s3.a s3.n s3.c, .slice s4.a s4.n s4.c]) (.agg #[.int .u16 (id' : Int), .bool rs', .int .i64 op', .bool aa', .bool tc', .bool rd', .bool ra', .bool ad', .bool cd', .int .i64 rc', .slice v1.a v1.n v1.c, .slice v2.a v2.n v2.c, .slice v3.a v3.n v3.c, .slice v4.a v4.n v4.c]) (.agg #[.int .u16 (id' : Int), .bool rs', .int .i64 op', .bool aa', .bool tc', .bool rd', .bool ra', .bool ad', .bool cd', .int .i64 rc', .slice t1.a t1.n t1.c, .slice t2.a t2.n t2.c, .slice t3.a t3.n t3.c, .slice t4.a t4.n t4.c])) W := by
  refine wpAnyH_ready (rs := [4, 5]) (by kernel_rfl) (by simp) ?_
  refine AllReadyH.cons (o := { dst := some 7, op := Op.alloc 26, type := 0, pos := "law.go:16", after := #[], guard := none }) rfl (fun K hK => ?_) ?_
  · go_simp
    have hal : Below W.heap.size W (W.alloc (.cells #[.int .u16 0, .bool false, .int .i64 0, .bool false, .bool false, .bool false, .bool false, .bool false, .bool false, .int .i64 0, .slice none 0 0, .slice none 0 0, .slice none 0 0, .slice none 0 0] 26)) := (Below.refl _ W).alloc (Nat.le_refl _) _
    have hb : Below V.heap.size V (W.alloc (.cells #[.int .u16 0, .bool false, .int .i64 0, .bool false, .bool false, .bool false, .bool false, .bool false, .bool false, .int .i64 0, .slice none 0 0, .slice none 0 0, .slice none 0 0, .slice none 0 0] 26)) := hB.out.trans (hal.mono hB.out.size)
    refine hK.out _ _ (hS _ hb) (fun _ => ?_)
    exact st_210 hS K1 K2 hfin _ hb W.heap.size (Bxz.new hB.out) s1 s2 s3 s4 (hs.out.p hal) t1 t2 t3 t4 (ht.out.p hal)
  refine AllReadyH.cons (o := { dst := some 8, op := Op.alloc 26, type := 0, pos := "law.go:16", after := #[], guard := none }) rfl (fun K hK => ?_) ?_
  · go_simp
    have hal : Below W.heap.size W (W.alloc (.cells #[.int .u16 0, .bool false, .int .i64 0, .bool false, .bool false, .bool false, .bool false, .bool false, .bool false, .int .i64 0, .slice none 0 0, .slice none 0 0, .slice none 0 0, .slice none 0 0] 26)) := (Below.refl _ W).alloc (Nat.le_refl _) _
    have hb : Below V.heap.size V (W.alloc (.cells #[.int .u16 0, .bool false, .int .i64 0, .bool false, .bool false, .bool false, .bool false, .bool false, .bool false, .int .i64 0, .slice none 0 0, .slice none 0 0, .slice none 0 0, .slice none 0 0] 26)) := hB.out.trans (hal.mono hB.out.size)
    refine hK.out _ _ (hS _ hb) (fun _ => ?_)
    exact st_201 hS K1 K2 hfin _ hb W.heap.size (Bxz.new hB.out) s1 s2 s3 s4 (hs.out.q hal) t1 t2 t3 t4 (ht.out.q hal)
  exact AllReadyH.nil
theorem st_111 {Q : Exit → Act → World → Prop} {S : World → Prop} {V : World} {c p0 p1 p2 : Value} {id : Nat} {rs : Bool} {op : Int} {aa tc rd ra ad cd : Bool} {rc : Int} {id' : Nat} {rs' : Bool} {op' : Int} {aa' tc' rd' ra' ad' cd' : Bool} {rc' : Int} {u1 u2 u3 u4 v1 v2 v3 v4 : Sl} {qs ps : List Qn} {r2 r3 r4 q2 q3 q4 : List Rec}
    (hS : ∀ W, Below V.heap.size V W → S W)
    (K1 : Hid (∀ W, Below V.heap.size V W → Calls Try.prog 9 #[.agg #[.int .u16 (id : Int), .bool rs, .int .i64 op, .bool aa, .bool tc, .bool rd, .bool ra, .bool ad, .bool cd, .int .i64 rc, .slice u1.a u1.n u1.c, .slice u2.a u2.n u2.c, .slice u3.a u3.n u3.c, .slice u4.a u4.n u4.c]] W fun e w' => ∃ s1 s2 s3 s4 : Sl, e = .returned (.agg #[.int .u16 (id : Int), .bool rs, .int .i64 op, .bool aa, .bool tc, .bool rd, .bool ra, .bool ad, .bool cd, .int .i64 rc, .slice s1.a s1.n s1.c, .slice s2.a s2.n s2.c, .slice s3.a s3.n s3.c, .slice s4.a s4.n s4.c]) ∧ Hid (Below W.heap.size W w' ∧ Cpy W.heap.size w'.heap.size w' s1 s2 s3 s4 qs r2 r3 r4)))
    (K2 : Hid (∀ W, Below V.heap.size V W → Calls Try.prog 9 #[.agg #[.int .u16 (id' : Int), .bool rs', .int .i64 op', .bool aa', .bool tc', .bool rd', .bool ra', .bool ad', .bool cd', .int .i64 rc', .slice v1.a v1.n v1.c, .slice v2.a v2.n v2.c, .slice v3.a v3.n v3.c, .slice v4.a v4.n v4.c]] W fun e w' => ∃ t1 t2 t3 t4 : Sl, e = .returned (.agg #[.int .u16 (id' : Int), .bool rs', .int .i64 op', .bool aa', .bool tc', .bool rd', .bool ra', .bool ad', .bool cd', .int .i64 rc', .slice t1.a t1.n t1.c, .slice t2.a t2.n t2.c, .slice t3.a t3.n t3.c, .slice t4.a t4.n t4.c]) ∧ Hid (Below W.heap.size W w' ∧ Cpy W.heap.size w'.heap.size w' t1 t2 t3 t4 ps q2 q3 q4)))
    (hfin : Hid (∀ (p q : Nat) (s1 s2 s3 s4 t1 t2 t3 t4 : Sl) (W : World), V.heap.size ≤ p → V.heap.size ≤ q → W.heap[p]? = some (.cells #[.int .u16 (id : Int), .bool rs, .int .i64 op, .bool aa, .bool tc, .bool rd, .bool ra, .bool ad, .bool cd, .int .i64 rc, .slice s1.a s1.n s1.c, .slice s2.a s2.n s2.c, .slice s3.a s3.n s3.c, .slice s4.a s4.n s4.c] 26) → W.heap[q]? = some (.cells #[.int .u16 (id' : Int), .bool rs', .int .i64 op', .bool aa', .bool tc', .bool rd', .bool ra', .bool ad', .bool cd', .int .i64 rc', .slice t1.a t1.n t1.c, .slice t2.a t2.n t2.c, .slice t3.a t3.n t3.c, .slice t4.a t4.n t4.c] 26) → MF W s1 s2 s3 s4 qs r2 r3 r4 → MF W t1 t2 t3 t4 ps q2 q3 q4 → Below V.heap.size V W → Q .normal (AT (.agg #[.int .u16 (id : Int), .bool rs, .int .i64 op, .bool aa, .bool tc, .bool rd, .bool ra, .bool ad, .bool cd, .int .i64 rc, .slice u1.a u1.n u1.c, .slice u2.a u2.n u2.c, .slice u3.a u3.n u3.c, .slice u4.a u4.n u4.c]) (.agg #[.int .u16 (id' : Int), .bool rs', .int .i64 op', .bool aa', .bool tc', .bool rd', .bool ra', .bool ad', .bool cd', .int .i64 rc', .slice v1.a v1.n v1.c, .slice v2.a v2.n v2.c, .slice v3.a v3.n v3.c, .slice v4.a v4.n v4.c]) c p0 p1 p2 (ptr p) (ptr q) (.agg #[.int .u16 (id : Int), .bool rs, .int .i64 op, .bool aa, .bool tc, .bool rd, .bool ra, .bool ad, .bool cd, .int .i64 rc, .slice u1.a u1.n u1.c, .slice u2.a u2.n u2.c, .slice u3.a u3.n u3.c, .slice u4.a u4.n u4.c]) (.agg #[.int .u16 (id : Int), .bool rs, .int .i64 op, .bool aa, .bool tc, .bool rd, .bool ra, .bool ad, .bool cd, .int .i64 rc, .slice s1.a s1.n s1.c, .slice s2.a s2.n s2.c, .slice s3.a s3.n s3.c, .slice s4.a s4.n s4.c]) (.agg #[.int .u16 (id' : Int), .bool rs', .int .i64 op', .bool aa', .bool tc', .bool rd', .bool ra', .bool ad', .bool cd', .int .i64 rc', .slice v1.a v1.n v1.c, .slice v2.a v2.n v2.c, .slice v3.a v3.n v3.c, .slice v4.a v4.n v4.c]) (.agg #[.int .u16 (id' : Int), .bool rs', .int .i64 op', .bool aa', .bool tc', .bool rd', .bool ra', .bool ad', .bool cd', .int .i64 rc', .slice t1.a t1.n t1.c, .slice t2.a t2.n t2.c, .slice t3.a t3.n t3.c, .slice t4.a t4.n t4.c])) W)) (W : World) (hB : Hid (Below V.heap.size V W)) (p : Nat) (hp : Hid (Bxz V W p)) (q : Nat) (hq : Hid (Bxz V W q)) (hpq : p ≠ q) (s1 s2 s3 s4 : Sl) (hs : Hid (CpP V W (some p) (some q) s1 s2 s3 s4 qs r2 r3 r4)) :
    wpAnyH Try.prog .any ops3 Q S 3 #[true, true, true, false, true, true, false, false] (AT (.agg #[.int .u16 (id : Int), .bool rs, .int .i64 op, .bool aa, .bool tc, .bool rd, .bool ra, .bool ad, .bool cd, .int .i64 rc, .slice u1.a u1.n u1.c, .slice u2.a u2.n u2.c, .slice u3.a u3.n u3.c, .slice u4.a u4.n u4.c]) (.agg #[.int .u16 (id' : Int), .bool rs', .int .i64 op', .bool aa', .bool tc', .bool rd', .bool ra', .bool ad', .bool cd', .int .i64 rc', .slice v1.a v1.n v1.c, .slice v2.a v2.n v2.c, .slice v3.a v3.n v3.c, .slice v4.a v4.n v4.c]) c p0 p1 p2 (ptr p) (ptr q) (.agg #[.int .u16 (id : Int), .bool rs, .int .i64 op, .bool aa, .bool tc, .bool rd, .bool ra, .bool ad, .bool cd, .int .i64 rc, .slice u1.a u1.n u1.c, .slice u2.a u2.n u2.c, .slice u3.a u3.n u3.c, .slice u4.a u4.n u4.c]) (.agg #[.int .u16 (id : Int), .bool rs, .int .i64 op, .bool aa, .bool tc, .bool rd, .bool ra, .bool ad, .bool cd, .int .i64 rc, .slice s1.a s1.n s1.c, .slice s2.a s2.n s2.c, .slice s3.a s3.n s3.c, .slice s4.a s4.n s4.c]) (.agg #[.int .u16 (id' : Int), .bool rs', .int .i64 op', .bool aa', .bool tc', .bool rd', .bool ra', .bool ad', .bool cd', .int .i64 rc', .slice v1.a v1.n v1.c, .slice v2.a v2.n v2.c, .slice v3.a v3.n v3.c, .slice v4.a v4.n v4.c]) undef) W := by
  have lp := block_lt hp.out.2
  have lq := block_lt hq.out.2
  refine wpAnyH_ready (rs := [3]) (by kernel_rfl) (by simp) ?_
  refine AllReadyH.cons (o := { dst := some 25, op := Op.call { callee := Callee.value (Operand.func 9), args := #[Operand.tmp 24], argTypes := #[26] }, type := 26, pos := "law.go:16", after := #[{ on := 2, ground := Ground.data }, { on := 1, ground := Ground.chain }], guard := none }) rfl (fun K hK => ?_) ?_
  · go_simp
    go_at_call 9
    refine Calls.mono (K2.out W hB.out) ?_
    rintro e w6 ⟨t1, t2, t3, t4, rfl, H6⟩
    have hb : Below V.heap.size V w6 := hB.out.trans (H6.out.1.mono hB.out.size)
    go_wp2_with fail
    refine hK.out _ _ (hS _ hb) (fun _ => ?_)
    exact st_211 hS K1 K2 hfin _ hb p (hp.out.go H6.out.1) q (hq.out.go H6.out.1) hpq s1 s2 s3 s4 (hs.out.go H6.out.1) t1 t2 t3 t4 (CpP.new hB.out (fun x e => by cases e; exact lp) (fun x e => by cases e; exact lq) H6.out.2)
  exact AllReadyH.nil
theorem st_110 {Q : Exit → Act → World → Prop} {S : World → Prop} {V : World} {c p0 p1 p2 : Value} {id : Nat} {rs : Bool} {op : Int} {aa tc rd ra ad cd : Bool} {rc : Int} {id' : Nat} {rs' : Bool} {op' : Int} {aa' tc' rd' ra' ad' cd' : Bool} {rc' : Int} {u1 u2 u3 u4 v1 v2 v3 v4 : Sl} {qs ps : List Qn} {r2 r3 r4 q2 q3 q4 : List Rec}
    (hS : ∀ W, Below V.heap.size V W → S W)
    (K1 : Hid (∀ W, Below V.heap.size V W → Calls Try.prog 9 #[.agg #[.int .u16 (id : Int), .bool rs, .int .i64 op, .bool aa, .bool tc, .bool rd, .bool ra, .bool ad, .bool cd, .int .i64 rc, .slice u1.a u1.n u1.c, .slice u2.a u2.n u2.c, .slice u3.a u3.n u3.c, .slice u4.a u4.n u4.c]] W fun e w' => ∃ s1 s2 s3 s4 : Sl, e = .returned (.agg #[.int .u16 (id : Int), .bool rs, .int .i64 op, .bool aa, .bool tc, .bool rd, .bool ra, .bool ad, .bool cd, .int .i64 rc, .slice s1.a s1.n s1.c, .slice s2.a s2.n s2.c, .slice s3.a s3.n s3.c, .slice s4.a s4.n s4.c]) ∧ Hid (Below W.heap.size W w' ∧ Cpy W.heap.size w'.heap.size w' s1 s2 s3 s4 qs r2 r3 r4)))
    (K2 : Hid (∀ W, Below V.heap.size V W → Calls Try.prog 9 #[.agg #[.int .u16 (id' : Int), .bool rs', .int .i64 op', .bool aa', .bool tc', .bool rd', .bool ra', .bool ad', .bool cd', .int .i64 rc', .slice v1.a v1.n v1.c, .slice v2.a v2.n v2.c, .slice v3.a v3.n v3.c, .slice v4.a v4.n v4.c]] W fun e w' => ∃ t1 t2 t3 t4 : Sl, e = .returned (.agg #[.int .u16 (id' : Int), .bool rs', .int .i64 op', .bool aa', .bool tc', .bool rd', .bool ra', .bool ad', .bool cd', .int .i64 rc', .slice t1.a t1.n t1.c, .slice t2.a t2.n t2.c, .slice t3.a t3.n t3.c, .slice t4.a t4.n t4.c]) ∧ Hid (Below W.heap.size W w' ∧ Cpy W.heap.size w'.heap.size w' t1 t2 t3 t4 ps q2 q3 q4)))
    (hfin : Hid (∀ (p q : Nat) (s1 s2 s3 s4 t1 t2 t3 t4 : Sl) (W : World), V.heap.size ≤ p → V.heap.size ≤ q → W.heap[p]? = some (.cells #[.int .u16 (id : Int), .bool rs, .int .i64 op, .bool aa, .bool tc, .bool rd, .bool ra, .bool ad, .bool cd, .int .i64 rc, .slice s1.a s1.n s1.c, .slice s2.a s2.n s2.c, .slice s3.a s3.n s3.c, .slice s4.a s4.n s4.c] 26) → W.heap[q]? = some (.cells #[.int .u16 (id' : Int), .bool rs', .int .i64 op', .bool aa', .bool tc', .bool rd', .bool ra', .bool ad', .bool cd', .int .i64 rc', .slice t1.a t1.n t1.c, .slice t2.a t2.n t2.c, .slice t3.a t3.n t3.c, .slice t4.a t4.n t4.c] 26) → MF W s1 s2 s3 s4 qs r2 r3 r4 → MF W t1 t2 t3 t4 ps q2 q3 q4 → Below V.heap.size V W → Q .normal (AT (.agg #[.int .u16 (id : Int), .bool rs, .int .i64 op, .bool aa, .bool tc, .bool rd, .bool ra, .bool ad, .bool cd, .int .i64 rc, .slice u1.a u1.n u1.c, .slice u2.a u2.n u2.c, .slice u3.a u3.n u3.c, .slice u4.a u4.n u4.c]) (.agg #[.int .u16 (id' : Int), .bool rs', .int .i64 op', .bool aa', .bool tc', .bool rd', .bool ra', .bool ad', .bool cd', .int .i64 rc', .slice v1.a v1.n v1.c, .slice v2.a v2.n v2.c, .slice v3.a v3.n v3.c, .slice v4.a v4.n v4.c]) c p0 p1 p2 (ptr p) (ptr q) (.agg #[.int .u16 (id : Int), .bool rs, .int .i64 op, .bool aa, .bool tc, .bool rd, .bool ra, .bool ad, .bool cd, .int .i64 rc, .slice u1.a u1.n u1.c, .slice u2.a u2.n u2.c, .slice u3.a u3.n u3.c, .slice u4.a u4.n u4.c]) (.agg #[.int .u16 (id : Int), .bool rs, .int .i64 op, .bool aa, .bool tc, .bool rd, .bool ra, .bool ad, .bool cd, .int .i64 rc, .slice s1.a s1.n s1.c, .slice s2.a s2.n s2.c, .slice s3.a s3.n s3.c, .slice s4.a s4.n s4.c]) (.agg #[.int .u16 (id' : Int), .bool rs', .int .i64 op', .bool aa', .bool tc', .bool rd', .bool ra', .bool ad', .bool cd', .int .i64 rc', .slice v1.a v1.n v1.c, .slice v2.a v2.n v2.c, .slice v3.a v3.n v3.c, .slice v4.a v4.n v4.c]) (.agg #[.int .u16 (id' : Int), .bool rs', .int .i64 op', .bool aa', .bool tc', .bool rd', .bool ra', .bool ad', .bool cd', .int .i64 rc', .slice t1.a t1.n t1.c, .slice t2.a t2.n t2.c, .slice t3.a t3.n t3.c, .slice t4.a t4.n t4.c])) W)) (W : World) (hB : Hid (Below V.heap.size V W)) (p : Nat) (hp : Hid (Bxz V W p)) (s1 s2 s3 s4 : Sl) (hs : Hid (CpP V W (some p) none s1 s2 s3 s4 qs r2 r3 r4)) :
    wpAnyH Try.prog .any ops3 Q S 4 #[true, true, true, false, true, false, false, false] (AT (.agg #[.int .u16 (id : Int), .bool rs, .int .i64 op, .bool aa, .bool tc, .bool rd, .bool ra, .bool ad, .bool cd, .int .i64 rc, .slice u1.a u1.n u1.c, .slice u2.a u2.n u2.c, .slice u3.a u3.n u3.c, .slice u4.a u4.n u4.c]) (.agg #[.int .u16 (id' : Int), .bool rs', .int .i64 op', .bool aa', .bool tc', .bool rd', .bool ra', .bool ad', .bool cd', .int .i64 rc', .slice v1.a v1.n v1.c, .slice v2.a v2.n v2.c, .slice v3.a v3.n v3.c, .slice v4.a v4.n v4.c]) c p0 p1 p2 (ptr p) undef (.agg #[.int .u16 (id : Int), .bool rs, .int .i64 op, .bool aa, .bool tc, .bool rd, .bool ra, .bool ad, .bool cd, .int .i64 rc, .slice u1.a u1.n u1.c, .slice u2.a u2.n u2.c, .slice u3.a u3.n u3.c, .slice u4.a u4.n u4.c]) (.agg #[.int .u16 (id : Int), .bool rs, .int .i64 op, .bool aa, .bool tc, .bool rd, .bool ra, .bool ad, .bool cd, .int .i64 rc, .slice s1.a s1.n s1.c, .slice s2.a s2.n s2.c, .slice s3.a s3.n s3.c, .slice s4.a s4.n s4.c]) (.agg #[.int .u16 (id' : Int), .bool rs', .int .i64 op', .bool aa', .bool tc', .bool rd', .bool ra', .bool ad', .bool cd', .int .i64 rc', .slice v1.a v1.n v1.c, .slice v2.a v2.n v2.c, .slice v3.a v3.n v3.c, .slice v4.a v4.n v4.c]) undef) W := by
  have lp := block_lt hp.out.2
  refine wpAnyH_ready (rs := [3, 5]) (by kernel_rfl) (by simp) ?_
  refine AllReadyH.cons (o := { dst := some 25, op := Op.call { callee := Callee.value (Operand.func 9), args := #[Operand.tmp 24], argTypes := #[26] }, type := 26, pos := "law.go:16", after := #[{ on := 2, ground := Ground.data }, { on := 1, ground := Ground.chain }], guard := none }) rfl (fun K hK => ?_) ?_
  · go_simp
    go_at_call 9
    refine Calls.mono (K2.out W hB.out) ?_
    rintro e w6 ⟨t1, t2, t3, t4, rfl, H6⟩
    have hb : Below V.heap.size V w6 := hB.out.trans (H6.out.1.mono hB.out.size)
    go_wp2_with fail
    refine hK.out _ _ (hS _ hb) (fun _ => ?_)
    exact st_210 hS K1 K2 hfin _ hb p (hp.out.go H6.out.1) s1 s2 s3 s4 (hs.out.go H6.out.1) t1 t2 t3 t4 (CpP.new hB.out (fun x e => by cases e; exact lp) (fun x e => by cases e) H6.out.2)
  refine AllReadyH.cons (o := { dst := some 8, op := Op.alloc 26, type := 0, pos := "law.go:16", after := #[], guard := none }) rfl (fun K hK => ?_) ?_
  · go_simp
    have hal : Below W.heap.size W (W.alloc (.cells #[.int .u16 0, .bool false, .int .i64 0, .bool false, .bool false, .bool false, .bool false, .bool false, .bool false, .int .i64 0, .slice none 0 0, .slice none 0 0, .slice none 0 0, .slice none 0 0] 26)) := (Below.refl _ W).alloc (Nat.le_refl _) _
    have hb : Below V.heap.size V (W.alloc (.cells #[.int .u16 0, .bool false, .int .i64 0, .bool false, .bool false, .bool false, .bool false, .bool false, .bool false, .int .i64 0, .slice none 0 0, .slice none 0 0, .slice none 0 0, .slice none 0 0] 26)) := hB.out.trans (hal.mono hB.out.size)
    refine hK.out _ _ (hS _ hb) (fun _ => ?_)
    exact st_111 hS K1 K2 hfin _ hb p (hp.out.go hal) W.heap.size (Bxz.new hB.out) (by omega) s1 s2 s3 s4 (hs.out.q hal)
  exact AllReadyH.nil
theorem st_101 {Q : Exit → Act → World → Prop} {S : World → Prop} {V : World} {c p0 p1 p2 : Value} {id : Nat} {rs : Bool} {op : Int} {aa tc rd ra ad cd : Bool} {rc : Int} {id' : Nat} {rs' : Bool} {op' : Int} {aa' tc' rd' ra' ad' cd' : Bool} {rc' : Int} {u1 u2 u3 u4 v1 v2 v3 v4 : Sl} {qs ps : List Qn} {r2 r3 r4 q2 q3 q4 : List Rec}
    (hS : ∀ W, Below V.heap.size V W → S W)
    (K1 : Hid (∀ W, Below V.heap.size V W → Calls Try.prog 9 #[.agg #[.int .u16 (id : Int), .bool rs, .int .i64 op, .bool aa, .bool tc, .bool rd, .bool ra, .bool ad, .bool cd, .int .i64 rc, .slice u1.a u1.n u1.c, .slice u2.a u2.n u2.c, .slice u3.a u3.n u3.c, .slice u4.a u4.n u4.c]] W fun e w' => ∃ s1 s2 s3 s4 : Sl, e = .returned (.agg #[.int .u16 (id : Int), .bool rs, .int .i64 op, .bool aa, .bool tc, .bool rd, .bool ra, .bool ad, .bool cd, .int .i64 rc, .slice s1.a s1.n s1.c, .slice s2.a s2.n s2.c, .slice s3.a s3.n s3.c, .slice s4.a s4.n s4.c]) ∧ Hid (Below W.heap.size W w' ∧ Cpy W.heap.size w'.heap.size w' s1 s2 s3 s4 qs r2 r3 r4)))
    (K2 : Hid (∀ W, Below V.heap.size V W → Calls Try.prog 9 #[.agg #[.int .u16 (id' : Int), .bool rs', .int .i64 op', .bool aa', .bool tc', .bool rd', .bool ra', .bool ad', .bool cd', .int .i64 rc', .slice v1.a v1.n v1.c, .slice v2.a v2.n v2.c, .slice v3.a v3.n v3.c, .slice v4.a v4.n v4.c]] W fun e w' => ∃ t1 t2 t3 t4 : Sl, e = .returned (.agg #[.int .u16 (id' : Int), .bool rs', .int .i64 op', .bool aa', .bool tc', .bool rd', .bool ra', .bool ad', .bool cd', .int .i64 rc', .slice t1.a t1.n t1.c, .slice t2.a t2.n t2.c, .slice t3.a t3.n t3.c, .slice t4.a t4.n t4.c]) ∧ Hid (Below W.heap.size W w' ∧ Cpy W.heap.size w'.heap.size w' t1 t2 t3 t4 ps q2 q3 q4)))
    (hfin : Hid (∀ (p q : Nat) (s1 s2 s3 s4 t1 t2 t3 t4 : Sl) (W : World), V.heap.size ≤ p → V.heap.size ≤ q → W.heap[p]? = some (.cells #[.int .u16 (id : Int), .bool rs, .int .i64 op, .bool aa, .bool tc, .bool rd, .bool ra, .bool ad, .bool cd, .int .i64 rc, .slice s1.a s1.n s1.c, .slice s2.a s2.n s2.c, .slice s3.a s3.n s3.c, .slice s4.a s4.n s4.c] 26) → W.heap[q]? = some (.cells #[.int .u16 (id' : Int), .bool rs', .int .i64 op', .bool aa', .bool tc', .bool rd', .bool ra', .bool ad', .bool cd', .int .i64 rc', .slice t1.a t1.n t1.c, .slice t2.a t2.n t2.c, .slice t3.a t3.n t3.c, .slice t4.a t4.n t4.c] 26) → MF W s1 s2 s3 s4 qs r2 r3 r4 → MF W t1 t2 t3 t4 ps q2 q3 q4 → Below V.heap.size V W → Q .normal (AT (.agg #[.int .u16 (id : Int), .bool rs, .int .i64 op, .bool aa, .bool tc, .bool rd, .bool ra, .bool ad, .bool cd, .int .i64 rc, .slice u1.a u1.n u1.c, .slice u2.a u2.n u2.c, .slice u3.a u3.n u3.c, .slice u4.a u4.n u4.c]) (.agg #[.int .u16 (id' : Int), .bool rs', .int .i64 op', .bool aa', .bool tc', .bool rd', .bool ra', .bool ad', .bool cd', .int .i64 rc', .slice v1.a v1.n v1.c, .slice v2.a v2.n v2.c, .slice v3.a v3.n v3.c, .slice v4.a v4.n v4.c]) c p0 p1 p2 (ptr p) (ptr q) (.agg #[.int .u16 (id : Int), .bool rs, .int .i64 op, .bool aa, .bool tc, .bool rd, .bool ra, .bool ad, .bool cd, .int .i64 rc, .slice u1.a u1.n u1.c, .slice u2.a u2.n u2.c, .slice u3.a u3.n u3.c, .slice u4.a u4.n u4.c]) (.agg #[.int .u16 (id : Int), .bool rs, .int .i64 op, .bool aa, .bool tc, .bool rd, .bool ra, .bool ad, .bool cd, .int .i64 rc, .slice s1.a s1.n s1.c, .slice s2.a s2.n s2.c, .slice s3.a s3.n s3.c, .slice s4.a s4.n s4.c]) (.agg #[.int .u16 (id' : Int), .bool rs', .int .i64 op', .bool aa', .bool tc', .bool rd', .bool ra', .bool ad', .bool cd', .int .i64 rc', .slice v1.a v1.n v1.c, .slice v2.a v2.n v2.c, .slice v3.a v3.n v3.c, .slice v4.a v4.n v4.c]) (.agg #[.int .u16 (id' : Int), .bool rs', .int .i64 op', .bool aa', .bool tc', .bool rd', .bool ra', .bool ad', .bool cd', .int .i64 rc', .slice t1.a t1.n t1.c, .slice t2.a t2.n t2.c, .slice t3.a t3.n t3.c, .slice t4.a t4.n t4.c])) W)) (W : World) (hB : Hid (Below V.heap.size V W)) (q : Nat) (hq : Hid (Bxz V W q)) (s1 s2 s3 s4 : Sl) (hs : Hid (CpP V W none (some q) s1 s2 s3 s4 qs r2 r3 r4)) :
    wpAnyH Try.prog .any ops3 Q S 4 #[true, true, true, false, false, true, false, false] (AT (.agg #[.int .u16 (id : Int), .bool rs, .int .i64 op, .bool aa, .bool tc, .bool rd, .bool ra, .bool ad, .bool cd, .int .i64 rc, .slice u1.a u1.n u1.c, .slice u2.a u2.n u2.c, .slice u3.a u3.n u3.c, .slice u4.a u4.n u4.c]) (.agg #[.int .u16 (id' : Int), .bool rs', .int .i64 op', .bool aa', .bool tc', .bool rd', .bool ra', .bool ad', .bool cd', .int .i64 rc', .slice v1.a v1.n v1.c, .slice v2.a v2.n v2.c, .slice v3.a v3.n v3.c, .slice v4.a v4.n v4.c]) c p0 p1 p2 undef (ptr q) (.agg #[.int .u16 (id : Int), .bool rs, .int .i64 op, .bool aa, .bool tc, .bool rd, .bool ra, .bool ad, .bool cd, .int .i64 rc, .slice u1.a u1.n u1.c, .slice u2.a u2.n u2.c, .slice u3.a u3.n u3.c, .slice u4.a u4.n u4.c]) (.agg #[.int .u16 (id : Int), .bool rs, .int .i64 op, .bool aa, .bool tc, .bool rd, .bool ra, .bool ad, .bool cd, .int .i64 rc, .slice s1.a s1.n s1.c, .slice s2.a s2.n s2.c, .slice s3.a s3.n s3.c, .slice s4.a s4.n s4.c]) (.agg #[.int .u16 (id' : Int), .bool rs', .int .i64 op', .bool aa', .bool tc', .bool rd', .bool ra', .bool ad', .bool cd', .int .i64 rc', .slice v1.a v1.n v1.c, .slice v2.a v2.n v2.c, .slice v3.a v3.n v3.c, .slice v4.a v4.n v4.c]) undef) W := by
  have lq := block_lt hq.out.2
  refine wpAnyH_ready (rs := [3, 4]) (by kernel_rfl) (by simp) ?_
  refine AllReadyH.cons (o := { dst := some 25, op := Op.call { callee := Callee.value (Operand.func 9), args := #[Operand.tmp 24], argTypes := #[26] }, type := 26, pos := "law.go:16", after := #[{ on := 2, ground := Ground.data }, { on := 1, ground := Ground.chain }], guard := none }) rfl (fun K hK => ?_) ?_
  · go_simp
    go_at_call 9
    refine Calls.mono (K2.out W hB.out) ?_
    rintro e w6 ⟨t1, t2, t3, t4, rfl, H6⟩
    have hb : Below V.heap.size V w6 := hB.out.trans (H6.out.1.mono hB.out.size)
    go_wp2_with fail
    refine hK.out _ _ (hS _ hb) (fun _ => ?_)
    exact st_201 hS K1 K2 hfin _ hb q (hq.out.go H6.out.1) s1 s2 s3 s4 (hs.out.go H6.out.1) t1 t2 t3 t4 (CpP.new hB.out (fun x e => by cases e) (fun x e => by cases e; exact lq) H6.out.2)
  refine AllReadyH.cons (o := { dst := some 7, op := Op.alloc 26, type := 0, pos := "law.go:16", after := #[], guard := none }) rfl (fun K hK => ?_) ?_
  · go_simp
    have hal : Below W.heap.size W (W.alloc (.cells #[.int .u16 0, .bool false, .int .i64 0, .bool false, .bool false, .bool false, .bool false, .bool false, .bool false, .int .i64 0, .slice none 0 0, .slice none 0 0, .slice none 0 0, .slice none 0 0] 26)) := (Below.refl _ W).alloc (Nat.le_refl _) _
    have hb : Below V.heap.size V (W.alloc (.cells #[.int .u16 0, .bool false, .int .i64 0, .bool false, .bool false, .bool false, .bool false, .bool false, .bool false, .int .i64 0, .slice none 0 0, .slice none 0 0, .slice none 0 0, .slice none 0 0] 26)) := hB.out.trans (hal.mono hB.out.size)
    refine hK.out _ _ (hS _ hb) (fun _ => ?_)
    exact st_111 hS K1 K2 hfin _ hb W.heap.size (Bxz.new hB.out) q (hq.out.go hal) (by omega) s1 s2 s3 s4 (hs.out.p hal)
  exact AllReadyH.nil
theorem st_100 {Q : Exit → Act → World → Prop} {S : World → Prop} {V : World} {c p0 p1 p2 : Value} {id : Nat} {rs : Bool} {op : Int} {aa tc rd ra ad cd : Bool} {rc : Int} {id' : Nat} {rs' : Bool} {op' : Int} {aa' tc' rd' ra' ad' cd' : Bool} {rc' : Int} {u1 u2 u3 u4 v1 v2 v3 v4 : Sl} {qs ps : List Qn} {r2 r3 r4 q2 q3 q4 : List Rec}
    (hS : ∀ W, Below V.heap.size V W → S W)
    (K1 : Hid (∀ W, Below V.heap.size V W → Calls Try.prog 9 #[.agg #[.int .u16 (id : Int), .bool rs, .int .i64 op, .bool aa, .bool tc, .bool rd, .bool ra, .bool ad, .bool cd, .int .i64 rc, .slice u1.a u1.n u1.c, .slice u2.a u2.n u2.c, .slice u3.a u3.n u3.c, .slice u4.a u4.n u4.c]] W fun e w' => ∃ s1 s2 s3 s4 : Sl, e = .returned (.agg #[.int .u16 (id : Int), .bool rs, .int .i64 op, .bool aa, .bool tc, .bool rd, .bool ra, .bool ad, .bool cd, .int .i64 rc, .slice s1.a s1.n s1.c, .slice s2.a s2.n s2.c, .slice s3.a s3.n s3.c, .slice s4.a s4.n s4.c]) ∧ Hid (Below W.heap.size W w' ∧ Cpy W.heap.size w'.heap.size w' s1 s2 s3 s4 qs r2 r3 r4)))
    (K2 : Hid (∀ W, Below V.heap.size V W → Calls Try.prog 9 #[.agg #[.int .u16 (id' : Int), .bool rs', .int .i64 op', .bool aa', .bool tc', .bool rd', .bool ra', .bool ad', .bool cd', .int .i64 rc', .slice v1.a v1.n v1.c, .slice v2.a v2.n v2.c, .slice v3.a v3.n v3.c, .slice v4.a v4.n v4.c]] W fun e w' => ∃ t1 t2 t3 t4 : Sl, e = .returned (.agg #[.int .u16 (id' : Int), .bool rs', .int .i64 op', .bool aa', .bool tc', .bool rd', .bool ra', .bool ad', .bool cd', .int .i64 rc', .slice t1.a t1.n t1.c, .slice t2.a t2.n t2.c, .slice t3.a t3.n t3.c, .slice t4.a t4.n t4.c]) ∧ Hid (Below W.heap.size W w' ∧ Cpy W.heap.size w'.heap.size w' t1 t2 t3 t4 ps q2 q3 q4)))
    (hfin : Hid (∀ (p q : Nat) (s1 s2 s3 s4 t1 t2 t3 t4 : Sl) (W : World), V.heap.size ≤ p → V.heap.size ≤ q → W.heap[p]? = some (.cells #[.int .u16 (id : Int), .bool rs, .int .i64 op, .bool aa, .bool tc, .bool rd, .bool ra, .bool ad, .bool cd, .int .i64 rc, .slice s1.a s1.n s1.c, .slice s2.a s2.n s2.c, .slice s3.a s3.n s3.c, .slice s4.a s4.n s4.c] 26) → W.heap[q]? = some (.cells #[.int .u16 (id' : Int), .bool rs', .int .i64 op', .bool aa', .bool tc', .bool rd', .bool ra', .bool ad', .bool cd', .int .i64 rc', .slice t1.a t1.n t1.c, .slice t2.a t2.n t2.c, .slice t3.a t3.n t3.c, .slice t4.a t4.n t4.c] 26) → MF W s1 s2 s3 s4 qs r2 r3 r4 → MF W t1 t2 t3 t4 ps q2 q3 q4 → Below V.heap.size V W → Q .normal (AT (.agg #[.int .u16 (id : Int), .bool rs, .int .i64 op, .bool aa, .bool tc, .bool rd, .bool ra, .bool ad, .bool cd, .int .i64 rc, .slice u1.a u1.n u1.c, .slice u2.a u2.n u2.c, .slice u3.a u3.n u3.c, .slice u4.a u4.n u4.c]) (.agg #[.int .u16 (id' : Int), .bool rs', .int .i64 op', .bool aa', .bool tc', .bool rd', .bool ra', .bool ad', .bool cd', .int .i64 rc', .slice v1.a v1.n v1.c, .slice v2.a v2.n v2.c, .slice v3.a v3.n v3.c, .slice v4.a v4.n v4.c]) c p0 p1 p2 (ptr p) (ptr q) (.agg #[.int .u16 (id : Int), .bool rs, .int .i64 op, .bool aa, .bool tc, .bool rd, .bool ra, .bool ad, .bool cd, .int .i64 rc, .slice u1.a u1.n u1.c, .slice u2.a u2.n u2.c, .slice u3.a u3.n u3.c, .slice u4.a u4.n u4.c]) (.agg #[.int .u16 (id : Int), .bool rs, .int .i64 op, .bool aa, .bool tc, .bool rd, .bool ra, .bool ad, .bool cd, .int .i64 rc, .slice s1.a s1.n s1.c, .slice s2.a s2.n s2.c, .slice s3.a s3.n s3.c, .slice s4.a s4.n s4.c]) (.agg #[.int .u16 (id' : Int), .bool rs', .int .i64 op', .bool aa', .bool tc', .bool rd', .bool ra', .bool ad', .bool cd', .int .i64 rc', .slice v1.a v1.n v1.c, .slice v2.a v2.n v2.c, .slice v3.a v3.n v3.c, .slice v4.a v4.n v4.c]) (.agg #[.int .u16 (id' : Int), .bool rs', .int .i64 op', .bool aa', .bool tc', .bool rd', .bool ra', .bool ad', .bool cd', .int .i64 rc', .slice t1.a t1.n t1.c, .slice t2.a t2.n t2.c, .slice t3.a t3.n t3.c, .slice t4.a t4.n t4.c])) W)) (W : World) (hB : Hid (Below V.heap.size V W)) (s1 s2 s3 s4 : Sl) (hs : Hid (CpP V W none none s1 s2 s3 s4 qs r2 r3 r4)) :
    wpAnyH Try.prog .any ops3 Q S 5 #[true, true, true, false, false, false, false, false] (AT (.agg #[.int .u16 (id : Int), .bool rs, .int .i64 op, .bool aa, .bool tc, .bool rd, .bool ra, .bool ad, .bool cd, .int .i64 rc, .slice u1.a u1.n u1.c, .slice u2.a u2.n u2.c, .slice u3.a u3.n u3.c, .slice u4.a u4.n u4.c]) (.agg #[.int .u16 (id' : Int), .bool rs', .int .i64 op', .bool aa', .bool tc', .bool rd', .bool ra', .bool ad', .bool cd', .int .i64 rc', .slice v1.a v1.n v1.c, .slice v2.a v2.n v2.c, .slice v3.a v3.n v3.c, .slice v4.a v4.n v4.c]) c p0 p1 p2 undef undef (.agg #[.int .u16 (id : Int), .bool rs, .int .i64 op, .bool aa, .bool tc, .bool rd, .bool ra, .bool ad, .bool cd, .int .i64 rc, .slice u1.a u1.n u1.c, .slice u2.a u2.n u2.c, .slice u3.a u3.n u3.c, .slice u4.a u4.n u4.c]) (.agg #[.int .u16 (id : Int), .bool rs, .int .i64 op, .bool aa, .bool tc, .bool rd, .bool ra, .bool ad, .bool cd, .int .i64 rc, .slice s1.a s1.n s1.c, .slice s2.a s2.n s2.c, .slice s3.a s3.n s3.c, .slice s4.a s4.n s4.c]) (.agg #[.int .u16 (id' : Int), .bool rs', .int .i64 op', .bool aa', .bool tc', .bool rd', .bool ra', .bool ad', .bool cd', .int .i64 rc', .slice v1.a v1.n v1.c, .slice v2.a v2.n v2.c, .slice v3.a v3.n v3.c, .slice v4.a v4.n v4.c]) undef) W := by
  refine wpAnyH_ready (rs := [3, 4, 5]) (by kernel_rfl) (by simp) ?_
  refine AllReadyH.cons (o := { dst := some 25, op := Op.call { callee := Callee.value (Operand.func 9), args := #[Operand.tmp 24], argTypes := #[26] }, type := 26, pos := "law.go:16", after := #[{ on := 2, ground := Ground.data }, { on := 1, ground := Ground.chain }], guard := none }) rfl (fun K hK => ?_) ?_
  · go_simp
    go_at_call 9
    refine Calls.mono (K2.out W hB.out) ?_
    rintro e w6 ⟨t1, t2, t3, t4, rfl, H6⟩
    have hb : Below V.heap.size V w6 := hB.out.trans (H6.out.1.mono hB.out.size)
    go_wp2_with fail
    refine hK.out _ _ (hS _ hb) (fun _ => ?_)
    exact st_200 hS K1 K2 hfin _ hb s1 s2 s3 s4 (hs.out.go H6.out.1) t1 t2 t3 t4 (CpP.new hB.out (fun x e => by cases e) (fun x e => by cases e) H6.out.2)
  refine AllReadyH.cons (o := { dst := some 7, op := Op.alloc 26, type := 0, pos := "law.go:16", after := #[], guard := none }) rfl (fun K hK => ?_) ?_
  · go_simp
    have hal : Below W.heap.size W (W.alloc (.cells #[.int .u16 0, .bool false, .int .i64 0, .bool false, .bool false, .bool false, .bool false, .bool false, .bool false, .int .i64 0, .slice none 0 0, .slice none 0 0, .slice none 0 0, .slice none 0 0] 26)) := (Below.refl _ W).alloc (Nat.le_refl _) _
    have hb : Below V.heap.size V (W.alloc (.cells #[.int .u16 0, .bool false, .int .i64 0, .bool false, .bool false, .bool false, .bool false, .bool false, .bool false, .int .i64 0, .slice none 0 0, .slice none 0 0, .slice none 0 0, .slice none 0 0] 26)) := hB.out.trans (hal.mono hB.out.size)
    refine hK.out _ _ (hS _ hb) (fun _ => ?_)
    exact st_110 hS K1 K2 hfin _ hb W.heap.size (Bxz.new hB.out) s1 s2 s3 s4 (hs.out.p hal)
  refine AllReadyH.cons (o := { dst := some 8, op := Op.alloc 26, type := 0, pos := "law.go:16", after := #[], guard := none }) rfl (fun K hK => ?_) ?_
  · go_simp
    have hal : Below W.heap.size W (W.alloc (.cells #[.int .u16 0, .bool false, .int .i64 0, .bool false, .bool false, .bool false, .bool false, .bool false, .bool false, .int .i64 0, .slice none 0 0, .slice none 0 0, .slice none 0 0, .slice none 0 0] 26)) := (Below.refl _ W).alloc (Nat.le_refl _) _
    have hb : Below V.heap.size V (W.alloc (.cells #[.int .u16 0, .bool false, .int .i64 0, .bool false, .bool false, .bool false, .bool false, .bool false, .bool false, .int .i64 0, .slice none 0 0, .slice none 0 0, .slice none 0 0, .slice none 0 0] 26)) := hB.out.trans (hal.mono hB.out.size)
    refine hK.out _ _ (hS _ hb) (fun _ => ?_)
    exact st_101 hS K1 K2 hfin _ hb W.heap.size (Bxz.new hB.out) s1 s2 s3 s4 (hs.out.q hal)
  exact AllReadyH.nil
theorem st_011 {Q : Exit → Act → World → Prop} {S : World → Prop} {V : World} {c p0 p1 p2 : Value} {id : Nat} {rs : Bool} {op : Int} {aa tc rd ra ad cd : Bool} {rc : Int} {id' : Nat} {rs' : Bool} {op' : Int} {aa' tc' rd' ra' ad' cd' : Bool} {rc' : Int} {u1 u2 u3 u4 v1 v2 v3 v4 : Sl} {qs ps : List Qn} {r2 r3 r4 q2 q3 q4 : List Rec}
    (hS : ∀ W, Below V.heap.size V W → S W)
    (K1 : Hid (∀ W, Below V.heap.size V W → Calls Try.prog 9 #[.agg #[.int .u16 (id : Int), .bool rs, .int .i64 op, .bool aa, .bool tc, .bool rd, .bool ra, .bool ad, .bool cd, .int .i64 rc, .slice u1.a u1.n u1.c, .slice u2.a u2.n u2.c, .slice u3.a u3.n u3.c, .slice u4.a u4.n u4.c]] W fun e w' => ∃ s1 s2 s3 s4 : Sl, e = .returned (.agg #[.int .u16 (id : Int), .bool rs, .int .i64 op, .bool aa, .bool tc, .bool rd, .bool ra, .bool ad, .bool cd, .int .i64 rc, .slice s1.a s1.n s1.c, .slice s2.a s2.n s2.c, .slice s3.a s3.n s3.c, .slice s4.a s4.n s4.c]) ∧ Hid (Below W.heap.size W w' ∧ Cpy W.heap.size w'.heap.size w' s1 s2 s3 s4 qs r2 r3 r4)))
    (K2 : Hid (∀ W, Below V.heap.size V W → Calls Try.prog 9 #[.agg #[.int .u16 (id' : Int), .bool rs', .int .i64 op', .bool aa', .bool tc', .bool rd', .bool ra', .bool ad', .bool cd', .int .i64 rc', .slice v1.a v1.n v1.c, .slice v2.a v2.n v2.c, .slice v3.a v3.n v3.c, .slice v4.a v4.n v4.c]] W fun e w' => ∃ t1 t2 t3 t4 : Sl, e = .returned (.agg #[.int .u16 (id' : Int), .bool rs', .int .i64 op', .bool aa', .bool tc', .bool rd', .bool ra', .bool ad', .bool cd', .int .i64 rc', .slice t1.a t1.n t1.c, .slice t2.a t2.n t2.c, .slice t3.a t3.n t3.c, .slice t4.a t4.n t4.c]) ∧ Hid (Below W.heap.size W w' ∧ Cpy W.heap.size w'.heap.size w' t1 t2 t3 t4 ps q2 q3 q4)))
    (hfin : Hid (∀ (p q : Nat) (s1 s2 s3 s4 t1 t2 t3 t4 : Sl) (W : World), V.heap.size ≤ p → V.heap.size ≤ q → W.heap[p]? = some (.cells #[.int .u16 (id : Int), .bool rs, .int .i64 op, .bool aa, .bool tc, .bool rd, .bool ra, .bool ad, .bool cd, .int .i64 rc, .slice s1.a s1.n s1.c, .slice s2.a s2.n s2.c, .slice s3.a s3.n s3.c, .slice s4.a s4.n s4.c] 26) → W.heap[q]? = some (.cells #[.int .u16 (id' : Int), .bool rs', .int .i64 op', .bool aa', .bool tc', .bool rd', .bool ra', .bool ad', .bool cd', .int .i64 rc', .slice t1.a t1.n t1.c, .slice t2.a t2.n t2.c, .slice t3.a t3.n t3.c, .slice t4.a t4.n t4.c] 26) → MF W s1 s2 s3 s4 qs r2 r3 r4 → MF W t1 t2 t3 t4 ps q2 q3 q4 → Below V.heap.size V W → Q .normal (AT (.agg #[.int .u16 (id : Int), .bool rs, .int .i64 op, .bool aa, .bool tc, .bool rd, .bool ra, .bool ad, .bool cd, .int .i64 rc, .slice u1.a u1.n u1.c, .slice u2.a u2.n u2.c, .slice u3.a u3.n u3.c, .slice u4.a u4.n u4.c]) (.agg #[.int .u16 (id' : Int), .bool rs', .int .i64 op', .bool aa', .bool tc', .bool rd', .bool ra', .bool ad', .bool cd', .int .i64 rc', .slice v1.a v1.n v1.c, .slice v2.a v2.n v2.c, .slice v3.a v3.n v3.c, .slice v4.a v4.n v4.c]) c p0 p1 p2 (ptr p) (ptr q) (.agg #[.int .u16 (id : Int), .bool rs, .int .i64 op, .bool aa, .bool tc, .bool rd, .bool ra, .bool ad, .bool cd, .int .i64 rc, .slice u1.a u1.n u1.c, .slice u2.a u2.n u2.c, .slice u3.a u3.n u3.c, .slice u4.a u4.n u4.c]) (.agg #[.int .u16 (id : Int), .bool rs, .int .i64 op, .bool aa, .bool tc, .bool rd, .bool ra, .bool ad, .bool cd, .int .i64 rc, .slice s1.a s1.n s1.c, .slice s2.a s2.n s2.c, .slice s3.a s3.n s3.c, .slice s4.a s4.n s4.c]) (.agg #[.int .u16 (id' : Int), .bool rs', .int .i64 op', .bool aa', .bool tc', .bool rd', .bool ra', .bool ad', .bool cd', .int .i64 rc', .slice v1.a v1.n v1.c, .slice v2.a v2.n v2.c, .slice v3.a v3.n v3.c, .slice v4.a v4.n v4.c]) (.agg #[.int .u16 (id' : Int), .bool rs', .int .i64 op', .bool aa', .bool tc', .bool rd', .bool ra', .bool ad', .bool cd', .int .i64 rc', .slice t1.a t1.n t1.c, .slice t2.a t2.n t2.c, .slice t3.a t3.n t3.c, .slice t4.a t4.n t4.c])) W)) (W : World) (hB : Hid (Below V.heap.size V W)) (p : Nat) (hp : Hid (Bxz V W p)) (q : Nat) (hq : Hid (Bxz V W q)) (hpq : p ≠ q) :
    wpAnyH Try.prog .any ops3 Q S 4 #[true, false, true, false, true, true, false, false] (AT (.agg #[.int .u16 (id : Int), .bool rs, .int .i64 op, .bool aa, .bool tc, .bool rd, .bool ra, .bool ad, .bool cd, .int .i64 rc, .slice u1.a u1.n u1.c, .slice u2.a u2.n u2.c, .slice u3.a u3.n u3.c, .slice u4.a u4.n u4.c]) (.agg #[.int .u16 (id' : Int), .bool rs', .int .i64 op', .bool aa', .bool tc', .bool rd', .bool ra', .bool ad', .bool cd', .int .i64 rc', .slice v1.a v1.n v1.c, .slice v2.a v2.n v2.c, .slice v3.a v3.n v3.c, .slice v4.a v4.n v4.c]) c p0 p1 p2 (ptr p) (ptr q) (.agg #[.int .u16 (id : Int), .bool rs, .int .i64 op, .bool aa, .bool tc, .bool rd, .bool ra, .bool ad, .bool cd, .int .i64 rc, .slice u1.a u1.n u1.c, .slice u2.a u2.n u2.c, .slice u3.a u3.n u3.c, .slice u4.a u4.n u4.c]) undef (.agg #[.int .u16 (id' : Int), .bool rs', .int .i64 op', .bool aa', .bool tc', .bool rd', .bool ra', .bool ad', .bool cd', .int .i64 rc', .slice v1.a v1.n v1.c, .slice v2.a v2.n v2.c, .slice v3.a v3.n v3.c, .slice v4.a v4.n v4.c]) undef) W := by
  have lp := block_lt hp.out.2
  have lq := block_lt hq.out.2
  refine wpAnyH_ready (rs := [1]) (by kernel_rfl) (by simp) ?_
  refine AllReadyH.cons (o := { dst := some 23, op := Op.call { callee := Callee.value (Operand.func 9), args := #[Operand.tmp 22], argTypes := #[26] }, type := 26, pos := "law.go:16", after := #[{ on := 0, ground := Ground.data }], guard := none }) rfl (fun K hK => ?_) ?_
  · go_simp
    go_at_call 9
    refine Calls.mono (K1.out W hB.out) ?_
    rintro e w6 ⟨s1, s2, s3, s4, rfl, H6⟩
    have hb : Below V.heap.size V w6 := hB.out.trans (H6.out.1.mono hB.out.size)
    go_wp2_with fail
    refine hK.out _ _ (hS _ hb) (fun _ => ?_)
    exact st_111 hS K1 K2 hfin _ hb p (hp.out.go H6.out.1) q (hq.out.go H6.out.1) hpq s1 s2 s3 s4 (CpP.new hB.out (fun x e => by cases e; exact lp) (fun x e => by cases e; exact lq) H6.out.2)
  exact AllReadyH.nil
theorem st_010 {Q : Exit → Act → World → Prop} {S : World → Prop} {V : World} {c p0 p1 p2 : Value} {id : Nat} {rs : Bool} {op : Int} {aa tc rd ra ad cd : Bool} {rc : Int} {id' : Nat} {rs' : Bool} {op' : Int} {aa' tc' rd' ra' ad' cd' : Bool} {rc' : Int} {u1 u2 u3 u4 v1 v2 v3 v4 : Sl} {qs ps : List Qn} {r2 r3 r4 q2 q3 q4 : List Rec}
    (hS : ∀ W, Below V.heap.size V W → S W)
    (K1 : Hid (∀ W, Below V.heap.size V W → Calls Try.prog 9 #[.agg #[.int .u16 (id : Int), .bool rs, .int .i64 op, .bool aa, .bool tc, .bool rd, .bool ra, .bool ad, .bool cd, .int .i64 rc, .slice u1.a u1.n u1.c, .slice u2.a u2.n u2.c, .slice u3.a u3.n u3.c, .slice u4.a u4.n u4.c]] W fun e w' => ∃ s1 s2 s3 s4 : Sl, e = .returned (.agg #[.int .u16 (id : Int), .bool rs, .int .i64 op, .bool aa, .bool tc, .bool rd, .bool ra, .bool ad, .bool cd, .int .i64 rc, .slice s1.a s1.n s1.c, .slice s2.a s2.n s2.c, .slice s3.a s3.n s3.c, .slice s4.a s4.n s4.c]) ∧ Hid (Below W.heap.size W w' ∧ Cpy W.heap.size w'.heap.size w' s1 s2 s3 s4 qs r2 r3 r4)))
    (K2 : Hid (∀ W, Below V.heap.size V W → Calls Try.prog 9 #[.agg #[.int .u16 (id' : Int), .bool rs', .int .i64 op', .bool aa', .bool tc', .bool rd', .bool ra', .bool ad', .bool cd', .int .i64 rc', .slice v1.a v1.n v1.c, .slice v2.a v2.n v2.c, .slice v3.a v3.n v3.c, .slice v4.a v4.n v4.c]] W fun e w' => ∃ t1 t2 t3 t4 : Sl, e = .returned (.agg #[.int .u16 (id' : Int), .bool rs', .int .i64 op', .bool aa', .bool tc', .bool rd', .bool ra', .bool ad', .bool cd', .int .i64 rc', .slice t1.a t1.n t1.c, .slice t2.a t2.n t2.c, .slice t3.a t3.n t3.c, .slice t4.a t4.n t4.c]) ∧ Hid (Below W.heap.size W w' ∧ Cpy W.heap.size w'.heap.size w' t1 t2 t3 t4 ps q2 q3 q4)))
    (hfin : Hid (∀ (p q : Nat) (s1 s2 s3 s4 t1 t2 t3 t4 : Sl) (W : World), V.heap.size ≤ p → V.heap.size ≤ q → W.heap[p]? = some (.cells #[.int .u16 (id : Int), .bool rs, .int .i64 op, .bool aa, .bool tc, .bool rd, .bool ra, .bool ad, .bool cd, .int .i64 rc, .slice s1.a s1.n s1.c, .slice s2.a s2.n s2.c, .slice s3.a s3.n s3.c, .slice s4.a s4.n s4.c] 26) → W.heap[q]? = some (.cells #[.int .u16 (id' : Int), .bool rs', .int .i64 op', .bool aa', .bool tc', .bool rd', .bool ra', .bool ad', .bool cd', .int .i64 rc', .slice t1.a t1.n t1.c, .slice t2.a t2.n t2.c, .slice t3.a t3.n t3.c, .slice t4.a t4.n t4.c] 26) → MF W s1 s2 s3 s4 qs r2 r3 r4 → MF W t1 t2 t3 t4 ps q2 q3 q4 → Below V.heap.size V W → Q .normal (AT (.agg #[.int .u16 (id : Int), .bool rs, .int .i64 op, .bool aa, .bool tc, .bool rd, .bool ra, .bool ad, .bool cd, .int .i64 rc, .slice u1.a u1.n u1.c, .slice u2.a u2.n u2.c, .slice u3.a u3.n u3.c, .slice u4.a u4.n u4.c]) (.agg #[.int .u16 (id' : Int), .bool rs', .int .i64 op', .bool aa', .bool tc', .bool rd', .bool ra', .bool ad', .bool cd', .int .i64 rc', .slice v1.a v1.n v1.c, .slice v2.a v2.n v2.c, .slice v3.a v3.n v3.c, .slice v4.a v4.n v4.c]) c p0 p1 p2 (ptr p) (ptr q) (.agg #[.int .u16 (id : Int), .bool rs, .int .i64 op, .bool aa, .bool tc, .bool rd, .bool ra, .bool ad, .bool cd, .int .i64 rc, .slice u1.a u1.n u1.c, .slice u2.a u2.n u2.c, .slice u3.a u3.n u3.c, .slice u4.a u4.n u4.c]) (.agg #[.int .u16 (id : Int), .bool rs, .int .i64 op, .bool aa, .bool tc, .bool rd, .bool ra, .bool ad, .bool cd, .int .i64 rc, .slice s1.a s1.n s1.c, .slice s2.a s2.n s2.c, .slice s3.a s3.n s3.c, .slice s4.a s4.n s4.c]) (.agg #[.int .u16 (id' : Int), .bool rs', .int .i64 op', .bool aa', .bool tc', .bool rd', .bool ra', .bool ad', .bool cd', .int .i64 rc', .slice v1.a v1.n v1.c, .slice v2.a v2.n v2.c, .slice v3.a v3.n v3.c, .slice v4.a v4.n v4.c]) (.agg #[.int .u16 (id' : Int), .bool rs', .int .i64 op', .bool aa', .bool tc', .bool rd', .bool ra', .bool ad', .bool cd', .int .i64 rc', .slice t1.a t1.n t1.c, .slice t2.a t2.n t2.c, .slice t3.a t3.n t3.c, .slice t4.a t4.n t4.c])) W)) (W : World) (hB : Hid (Below V.heap.size V W)) (p : Nat) (hp : Hid (Bxz V W p)) :
    wpAnyH Try.prog .any ops3 Q S 5 #[true, false, true, false, true, false, false, false] (AT (.agg #[.int .u16 (id : Int), .bool rs, .int .i64 op, .bool aa, .bool tc, .bool rd, .bool ra, .bool ad, .bool cd, .int .i64 rc, .slice u1.a u1.n u1.c, .slice u2.a u2.n u2.c, .slice u3.a u3.n u3.c, .slice u4.a u4.n u4.c]) (.agg #[.int .u16 (id' : Int), .bool rs', .int .i64 op', .bool aa', .bool tc', .bool rd', .bool ra', .bool ad', .bool cd', .int .i64 rc', .slice v1.a v1.n v1.c, .slice v2.a v2.n v2.c, .slice v3.a v3.n v3.c, .slice v4.a v4.n v4.c]) c p0 p1 p2 (ptr p) undef (.agg #[.int .u16 (id : Int), .bool rs, .int .i64 op, .bool aa, .bool tc, .bool rd, .bool ra, .bool ad, .bool cd, .int .i64 rc, .slice u1.a u1.n u1.c, .slice u2.a u2.n u2.c, .slice u3.a u3.n u3.c, .slice u4.a u4.n u4.c]) undef (.agg #[.int .u16 (id' : Int), .bool rs', .int .i64 op', .bool aa', .bool tc', .bool rd', .bool ra', .bool ad', .bool cd', .int .i64 rc', .slice v1.a v1.n v1.c, .slice v2.a v2.n v2.c, .slice v3.a v3.n v3.c, .slice v4.a v4.n v4.c]) undef) W := by
  have lp := block_lt hp.out.2
  refine wpAnyH_ready (rs := [1, 5]) (by kernel_rfl) (by simp) ?_
  refine AllReadyH.cons (o := { dst := some 23, op := Op.call { callee := Callee.value (Operand.func 9), args := #[Operand.tmp 22], argTypes := #[26] }, type := 26, pos := "law.go:16", after := #[{ on := 0, ground := Ground.data }], guard := none }) rfl (fun K hK => ?_) ?_
  · go_simp
    go_at_call 9
    refine Calls.mono (K1.out W hB.out) ?_
    rintro e w6 ⟨s1, s2, s3, s4, rfl, H6⟩
    have hb : Below V.heap.size V w6 := hB.out.trans (H6.out.1.mono hB.out.size)
    go_wp2_with fail
    refine hK.out _ _ (hS _ hb) (fun _ => ?_)
    exact st_110 hS K1 K2 hfin _ hb p (hp.out.go H6.out.1) s1 s2 s3 s4 (CpP.new hB.out (fun x e => by cases e; exact lp) (fun x e => by cases e) H6.out.2)
  refine AllReadyH.cons (o := { dst := some 8, op := Op.alloc 26, type := 0, pos := "law.go:16", after := #[], guard := none }) rfl (fun K hK => ?_) ?_
  · go_simp
    have hal : Below W.heap.size W (W.alloc (.cells #[.int .u16 0, .bool false, .int .i64 0, .bool false, .bool false, .bool false, .bool false, .bool false, .bool false, .int .i64 0, .slice none 0 0, .slice none 0 0, .slice none 0 0, .slice none 0 0] 26)) := (Below.refl _ W).alloc (Nat.le_refl _) _
    have hb : Below V.heap.size V (W.alloc (.cells #[.int .u16 0, .bool false, .int .i64 0, .bool false, .bool false, .bool false, .bool false, .bool false, .bool false, .int .i64 0, .slice none 0 0, .slice none 0 0, .slice none 0 0, .slice none 0 0] 26)) := hB.out.trans (hal.mono hB.out.size)
    refine hK.out _ _ (hS _ hb) (fun _ => ?_)
    exact st_011 hS K1 K2 hfin _ hb p (hp.out.go hal) W.heap.size (Bxz.new hB.out) (by omega)
  exact AllReadyH.nil
theorem st_001 {Q : Exit → Act → World → Prop} {S : World → Prop} {V : World} {c p0 p1 p2 : Value} {id : Nat} {rs : Bool} {op : Int} {aa tc rd ra ad cd : Bool} {rc : Int} {id' : Nat} {rs' : Bool} {op' : Int} {aa' tc' rd' ra' ad' cd' : Bool} {rc' : Int} {u1 u2 u3 u4 v1 v2 v3 v4 : Sl} {qs ps : List Qn} {r2 r3 r4 q2 q3 q4 : List Rec}
    (hS : ∀ W, Below V.heap.size V W → S W)
    (K1 : Hid (∀ W, Below V.heap.size V W → Calls Try.prog 9 #[.agg #[.int .u16 (id : Int), .bool rs, .int .i64 op, .bool aa, .bool tc, .bool rd, .bool ra, .bool ad, .bool cd, .int .i64 rc, .slice u1.a u1.n u1.c, .slice u2.a u2.n u2.c, .slice u3.a u3.n u3.c, .slice u4.a u4.n u4.c]] W fun e w' => ∃ s1 s2 s3 s4 : Sl, e = .returned (.agg #[.int .u16 (id : Int), .bool rs, .int .i64 op, .bool aa, .bool tc, .bool rd, .bool ra, .bool ad, .bool cd, .int .i64 rc, .slice s1.a s1.n s1.c, .slice s2.a s2.n s2.c, .slice s3.a s3.n s3.c, .slice s4.a s4.n s4.c]) ∧ Hid (Below W.heap.size W w' ∧ Cpy W.heap.size w'.heap.size w' s1 s2 s3 s4 qs r2 r3 r4)))
    (K2 : Hid (∀ W, Below V.heap.size V W → Calls Try.prog 9 #[.agg #[.int .u16 (id' : Int), .bool rs', .int .i64 op', .bool aa', .bool tc', .bool rd', .bool ra', .bool ad', .bool cd', .int .i64 rc', .slice v1.a v1.n v1.c, .slice v2.a v2.n v2.c, .slice v3.a v3.n v3.c, .slice v4.a v4.n v4.c]] W fun e w' => ∃ t1 t2 t3 t4 : Sl, e = .returned (.agg #[.int .u16 (id' : Int), .bool rs', .int .i64 op', .bool aa', .bool tc', .bool rd', .bool ra', .bool ad', .bool cd', .int .i64 rc', .slice t1.a t1.n t1.c, .slice t2.a t2.n t2.c, .slice t3.a t3.n t3.c, .slice t4.a t4.n t4.c]) ∧ Hid (Below W.heap.size W w' ∧ Cpy W.heap.size w'.heap.size w' t1 t2 t3 t4 ps q2 q3 q4)))
    (hfin : Hid (∀ (p q : Nat) (s1 s2 s3 s4 t1 t2 t3 t4 : Sl) (W : World), V.heap.size ≤ p → V.heap.size ≤ q → W.heap[p]? = some (.cells #[.int .u16 (id : Int), .bool rs, .int .i64 op, .bool aa, .bool tc, .bool rd, .bool ra, .bool ad, .bool cd, .int .i64 rc, .slice s1.a s1.n s1.c, .slice s2.a s2.n s2.c, .slice s3.a s3.n s3.c, .slice s4.a s4.n s4.c] 26) → W.heap[q]? = some (.cells #[.int .u16 (id' : Int), .bool rs', .int .i64 op', .bool aa', .bool tc', .bool rd', .bool ra', .bool ad', .bool cd', .int .i64 rc', .slice t1.a t1.n t1.c, .slice t2.a t2.n t2.c, .slice t3.a t3.n t3.c, .slice t4.a t4.n t4.c] 26) → MF W s1 s2 s3 s4 qs r2 r3 r4 → MF W t1 t2 t3 t4 ps q2 q3 q4 → Below V.heap.size V W → Q .normal (AT (.agg #[.int .u16 (id : Int), .bool rs, .int .i64 op, .bool aa, .bool tc, .bool rd, .bool ra, .bool ad, .bool cd, .int .i64 rc, .slice u1.a u1.n u1.c, .slice u2.a u2.n u2.c, .slice u3.a u3.n u3.c, .slice u4.a u4.n u4.c]) (.agg #[.int .u16 (id' : Int), .bool rs', .int .i64 op', .bool aa', .bool tc', .bool rd', .bool ra', .bool ad', .bool cd', .int .i64 rc', .slice v1.a v1.n v1.c, .slice v2.a v2.n v2.c, .slice v3.a v3.n v3.c, .slice v4.a v4.n v4.c]) c p0 p1 p2 (ptr p) (ptr q) (.agg #[.int .u16 (id : Int), .bool rs, .int .i64 op, .bool aa, .bool tc, .bool rd, .bool ra, .bool ad, .bool cd, .int .i64 rc, .slice u1.a u1.n u1.c, .slice u2.a u2.n u2.c, .slice u3.a u3.n u3.c, .slice u4.a u4.n u4.c]) (.agg #[.int .u16 (id : Int), .bool rs, .int .i64 op, .bool aa, .bool tc, .bool rd, .bool ra, .bool ad, .bool cd, .int .i64 rc, .slice s1.a s1.n s1.c, .slice s2.a s2.n s2.c, .slice s3.a s3.n s3.c, .slice s4.a s4.n s4.c]) (.agg #[.int .u16 (id' : Int), .bool rs', .int .i64 op', .bool aa', .bool tc', .bool rd', .bool ra', .bool ad', .bool cd', .int .i64 rc', .slice v1.a v1.n v1.c, .slice v2.a v2.n v2.c, .slice v3.a v3.n v3.c, .slice v4.a v4.n v4.c]) (.agg #[.int .u16 (id' : Int), .bool rs', .int .i64 op', .bool aa', .bool tc', .bool rd', .bool ra', .bool ad', .bool cd', .int .i64 rc', .slice t1.a t1.n t1.c, .slice t2.a t2.n t2.c, .slice t3.a t3.n t3.c, .slice t4.a t4.n t4.c])) W)) (W : World) (hB : Hid (Below V.heap.size V W)) (q : Nat) (hq : Hid (Bxz V W q)) :
    wpAnyH Try.prog .any ops3 Q S 5 #[true, false, true, false, false, true, false, false] (AT (.agg #[.int .u16 (id : Int), .bool rs, .int .i64 op, .bool aa, .bool tc, .bool rd, .bool ra, .bool ad, .bool cd, .int .i64 rc, .slice u1.a u1.n u1.c, .slice u2.a u2.n u2.c, .slice u3.a u3.n u3.c, .slice u4.a u4.n u4.c]) (.agg #[.int .u16 (id' : Int), .bool rs', .int .i64 op', .bool aa', .bool tc', .bool rd', .bool ra', .bool ad', .bool cd', .int .i64 rc', .slice v1.a v1.n v1.c, .slice v2.a v2.n v2.c, .slice v3.a v3.n v3.c, .slice v4.a v4.n v4.c]) c p0 p1 p2 undef (ptr q) (.agg #[.int .u16 (id : Int), .bool rs, .int .i64 op, .bool aa, .bool tc, .bool rd, .bool ra, .bool ad, .bool cd, .int .i64 rc, .slice u1.a u1.n u1.c, .slice u2.a u2.n u2.c, .slice u3.a u3.n u3.c, .slice u4.a u4.n u4.c]) undef (.agg #[.int .u16 (id' : Int), .bool rs', .int .i64 op', .bool aa', .bool tc', .bool rd', .bool ra', .bool ad', .bool cd', .int .i64 rc', .slice v1.a v1.n v1.c, .slice v2.a v2.n v2.c, .slice v3.a v3.n v3.c, .slice v4.a v4.n v4.c]) undef) W := by
  have lq := block_lt hq.out.2
  refine wpAnyH_ready (rs := [1, 4]) (by kernel_rfl) (by simp) ?_
  refine AllReadyH.cons (o := { dst := some 23, op := Op.call { callee := Callee.value (Operand.func 9), args := #[Operand.tmp 22], argTypes := #[26] }, type := 26, pos := "law.go:16", after := #[{ on := 0, ground := Ground.data }], guard := none }) rfl (fun K hK => ?_) ?_
  · go_simp
    go_at_call 9
    refine Calls.mono (K1.out W hB.out) ?_
    rintro e w6 ⟨s1, s2, s3, s4, rfl, H6⟩
    have hb : Below V.heap.size V w6 := hB.out.trans (H6.out.1.mono hB.out.size)
    go_wp2_with fail
    refine hK.out _ _ (hS _ hb) (fun _ => ?_)
    exact st_101 hS K1 K2 hfin _ hb q (hq.out.go H6.out.1) s1 s2 s3 s4 (CpP.new hB.out (fun x e => by cases e) (fun x e => by cases e; exact lq) H6.out.2)
  refine AllReadyH.cons (o := { dst := some 7, op := Op.alloc 26, type := 0, pos := "law.go:16", after := #[], guard := none }) rfl (fun K hK => ?_) ?_
  · go_simp
    have hal : Below W.heap.size W (W.alloc (.cells #[.int .u16 0, .bool false, .int .i64 0, .bool false, .bool false, .bool false, .bool false, .bool false, .bool false, .int .i64 0, .slice none 0 0, .slice none 0 0, .slice none 0 0, .slice none 0 0] 26)) := (Below.refl _ W).alloc (Nat.le_refl _) _
    have hb : Below V.heap.size V (W.alloc (.cells #[.int .u16 0, .bool false, .int .i64 0, .bool false, .bool false, .bool false, .bool false, .bool false, .bool false, .int .i64 0, .slice none 0 0, .slice none 0 0, .slice none 0 0, .slice none 0 0] 26)) := hB.out.trans (hal.mono hB.out.size)
    refine hK.out _ _ (hS _ hb) (fun _ => ?_)
    exact st_011 hS K1 K2 hfin _ hb W.heap.size (Bxz.new hB.out) q (hq.out.go hal) (by omega)
  exact AllReadyH.nil
theorem st_000 {Q : Exit → Act → World → Prop} {S : World → Prop} {V : World} {c p0 p1 p2 : Value} {id : Nat} {rs : Bool} {op : Int} {aa tc rd ra ad cd : Bool} {rc : Int} {id' : Nat} {rs' : Bool} {op' : Int} {aa' tc' rd' ra' ad' cd' : Bool} {rc' : Int} {u1 u2 u3 u4 v1 v2 v3 v4 : Sl} {qs ps : List Qn} {r2 r3 r4 q2 q3 q4 : List Rec}
    (hS : ∀ W, Below V.heap.size V W → S W)
    (K1 : Hid (∀ W, Below V.heap.size V W → Calls Try.prog 9 #[.agg #[.int .u16 (id : Int), .bool rs, .int .i64 op, .bool aa, .bool tc, .bool rd, .bool ra, .bool ad, .bool cd, .int .i64 rc, .slice u1.a u1.n u1.c, .slice u2.a u2.n u2.c, .slice u3.a u3.n u3.c, .slice u4.a u4.n u4.c]] W fun e w' => ∃ s1 s2 s3 s4 : Sl, e = .returned (.agg #[.int .u16 (id : Int), .bool rs, .int .i64 op, .bool aa, .bool tc, .bool rd, .bool ra, .bool ad, .bool cd, .int .i64 rc, .slice s1.a s1.n s1.c, .slice s2.a s2.n s2.c, .slice s3.a s3.n s3.c, .slice s4.a s4.n s4.c]) ∧ Hid (Below W.heap.size W w' ∧ Cpy W.heap.size w'.heap.size w' s1 s2 s3 s4 qs r2 r3 r4)))
    (K2 : Hid (∀ W, Below V.heap.size V W → Calls Try.prog 9 #[.agg #[.int .u16 (id' : Int), .bool rs', .int .i64 op', .bool aa', .bool tc', .bool rd', .bool ra', .bool ad', .bool cd', .int .i64 rc', .slice v1.a v1.n v1.c, .slice v2.a v2.n v2.c, .slice v3.a v3.n v3.c, .slice v4.a v4.n v4.c]] W fun e w' => ∃ t1 t2 t3 t4 : Sl, e = .returned (.agg #[.int .u16 (id' : Int), .bool rs', .int .i64 op', .bool aa', .bool tc', .bool rd', .bool ra', .bool ad', .bool cd', .int .i64 rc', .slice t1.a t1.n t1.c, .slice t2.a t2.n t2.c, .slice t3.a t3.n t3.c, .slice t4.a t4.n t4.c]) ∧ Hid (Below W.heap.size W w' ∧ Cpy W.heap.size w'.heap.size w' t1 t2 t3 t4 ps q2 q3 q4)))
    (hfin : Hid (∀ (p q : Nat) (s1 s2 s3 s4 t1 t2 t3 t4 : Sl) (W : World), V.heap.size ≤ p → V.heap.size ≤ q → W.heap[p]? = some (.cells #[.int .u16 (id : Int), .bool rs, .int .i64 op, .bool aa, .bool tc, .bool rd, .bool ra, .bool ad, .bool cd, .int .i64 rc, .slice s1.a s1.n s1.c, .slice s2.a s2.n s2.c, .slice s3.a s3.n s3.c, .slice s4.a s4.n s4.c] 26) → W.heap[q]? = some (.cells #[.int .u16 (id' : Int), .bool rs', .int .i64 op', .bool aa', .bool tc', .bool rd', .bool ra', .bool ad', .bool cd', .int .i64 rc', .slice t1.a t1.n t1.c, .slice t2.a t2.n t2.c, .slice t3.a t3.n t3.c, .slice t4.a t4.n t4.c] 26) → MF W s1 s2 s3 s4 qs r2 r3 r4 → MF W t1 t2 t3 t4 ps q2 q3 q4 → Below V.heap.size V W → Q .normal (AT (.agg #[.int .u16 (id : Int), .bool rs, .int .i64 op, .bool aa, .bool tc, .bool rd, .bool ra, .bool ad, .bool cd, .int .i64 rc, .slice u1.a u1.n u1.c, .slice u2.a u2.n u2.c, .slice u3.a u3.n u3.c, .slice u4.a u4.n u4.c]) (.agg #[.int .u16 (id' : Int), .bool rs', .int .i64 op', .bool aa', .bool tc', .bool rd', .bool ra', .bool ad', .bool cd', .int .i64 rc', .slice v1.a v1.n v1.c, .slice v2.a v2.n v2.c, .slice v3.a v3.n v3.c, .slice v4.a v4.n v4.c]) c p0 p1 p2 (ptr p) (ptr q) (.agg #[.int .u16 (id : Int), .bool rs, .int .i64 op, .bool aa, .bool tc, .bool rd, .bool ra, .bool ad, .bool cd, .int .i64 rc, .slice u1.a u1.n u1.c, .slice u2.a u2.n u2.c, .slice u3.a u3.n u3.c, .slice u4.a u4.n u4.c]) (.agg #[.int .u16 (id : Int), .bool rs, .int .i64 op, .bool aa, .bool tc, .bool rd, .bool ra, .bool ad, .bool cd, .int .i64 rc, .slice s1.a s1.n s1.c, .slice s2.a s2.n s2.c, .slice s3.a s3.n s3.c, .slice s4.a s4.n s4.c]) (.agg #[.int .u16 (id' : Int), .bool rs', .int .i64 op', .bool aa', .bool tc', .bool rd', .bool ra', .bool ad', .bool cd', .int .i64 rc', .slice v1.a v1.n v1.c, .slice v2.a v2.n v2.c, .slice v3.a v3.n v3.c, .slice v4.a v4.n v4.c]) (.agg #[.int .u16 (id' : Int), .bool rs', .int .i64 op', .bool aa', .bool tc', .bool rd', .bool ra', .bool ad', .bool cd', .int .i64 rc', .slice t1.a t1.n t1.c, .slice t2.a t2.n t2.c, .slice t3.a t3.n t3.c, .slice t4.a t4.n t4.c])) W)) (W : World) (hB : Hid (Below V.heap.size V W)) :
    wpAnyH Try.prog .any ops3 Q S 6 #[true, false, true, false, false, false, false, false] (AT (.agg #[.int .u16 (id : Int), .bool rs, .int .i64 op, .bool aa, .bool tc, .bool rd, .bool ra, .bool ad, .bool cd, .int .i64 rc, .slice u1.a u1.n u1.c, .slice u2.a u2.n u2.c, .slice u3.a u3.n u3.c, .slice u4.a u4.n u4.c]) (.agg #[.int .u16 (id' : Int), .bool rs', .int .i64 op', .bool aa', .bool tc', .bool rd', .bool ra', .bool ad', .bool cd', .int .i64 rc', .slice v1.a v1.n v1.c, .slice v2.a v2.n v2.c, .slice v3.a v3.n v3.c, .slice v4.a v4.n v4.c]) c p0 p1 p2 undef undef (.agg #[.int .u16 (id : Int), .bool rs, .int .i64 op, .bool aa, .bool tc, .bool rd, .bool ra, .bool ad, .bool cd, .int .i64 rc, .slice u1.a u1.n u1.c, .slice u2.a u2.n u2.c, .slice u3.a u3.n u3.c, .slice u4.a u4.n u4.c]) undef (.agg #[.int .u16 (id' : Int), .bool rs', .int .i64 op', .bool aa', .bool tc', .bool rd', .bool ra', .bool ad', .bool cd', .int .i64 rc', .slice v1.a v1.n v1.c, .slice v2.a v2.n v2.c, .slice v3.a v3.n v3.c, .slice v4.a v4.n v4.c]) undef) W := by
  refine wpAnyH_ready (rs := [1, 4, 5]) (by kernel_rfl) (by simp) ?_
  refine AllReadyH.cons (o := { dst := some 23, op := Op.call { callee := Callee.value (Operand.func 9), args := #[Operand.tmp 22], argTypes := #[26] }, type := 26, pos := "law.go:16", after := #[{ on := 0, ground := Ground.data }], guard := none }) rfl (fun K hK => ?_) ?_
  · go_simp
    go_at_call 9
    refine Calls.mono (K1.out W hB.out) ?_
    rintro e w6 ⟨s1, s2, s3, s4, rfl, H6⟩
    have hb : Below V.heap.size V w6 := hB.out.trans (H6.out.1.mono hB.out.size)
    go_wp2_with fail
    refine hK.out _ _ (hS _ hb) (fun _ => ?_)
    exact st_100 hS K1 K2 hfin _ hb s1 s2 s3 s4 (CpP.new hB.out (fun x e => by cases e) (fun x e => by cases e) H6.out.2)
  refine AllReadyH.cons (o := { dst := some 7, op := Op.alloc 26, type := 0, pos := "law.go:16", after := #[], guard := none }) rfl (fun K hK => ?_) ?_
  · go_simp
    have hal : Below W.heap.size W (W.alloc (.cells #[.int .u16 0, .bool false, .int .i64 0, .bool false, .bool false, .bool false, .bool false, .bool false, .bool false, .int .i64 0, .slice none 0 0, .slice none 0 0, .slice none 0 0, .slice none 0 0] 26)) := (Below.refl _ W).alloc (Nat.le_refl _) _
    have hb : Below V.heap.size V (W.alloc (.cells #[.int .u16 0, .bool false, .int .i64 0, .bool false, .bool false, .bool false, .bool false, .bool false, .bool false, .int .i64 0, .slice none 0 0, .slice none 0 0, .slice none 0 0, .slice none 0 0] 26)) := hB.out.trans (hal.mono hB.out.size)
    refine hK.out _ _ (hS _ hb) (fun _ => ?_)
    exact st_010 hS K1 K2 hfin _ hb W.heap.size (Bxz.new hB.out)
  refine AllReadyH.cons (o := { dst := some 8, op := Op.alloc 26, type := 0, pos := "law.go:16", after := #[], guard := none }) rfl (fun K hK => ?_) ?_
  · go_simp
    have hal : Below W.heap.size W (W.alloc (.cells #[.int .u16 0, .bool false, .int .i64 0, .bool false, .bool false, .bool false, .bool false, .bool false, .bool false, .int .i64 0, .slice none 0 0, .slice none 0 0, .slice none 0 0, .slice none 0 0] 26)) := (Below.refl _ W).alloc (Nat.le_refl _) _
    have hb : Below V.heap.size V (W.alloc (.cells #[.int .u16 0, .bool false, .int .i64 0, .bool false, .bool false, .bool false, .bool false, .bool false, .bool false, .int .i64 0, .slice none 0 0, .slice none 0 0, .slice none 0 0, .slice none 0 0] 26)) := hB.out.trans (hal.mono hB.out.size)
    refine hK.out _ _ (hS _ hb) (fun _ => ?_)
    exact st_001 hS K1 K2 hfin _ hb W.heap.size (Bxz.new hB.out)
  exact AllReadyH.nil
theorem region3 {Q : Exit → Act → World → Prop} {V : World} {c p2 : Value} {id : Nat} {rs : Bool} {op : Int} {aa tc rd ra ad cd : Bool} {rc : Int} {id' : Nat} {rs' : Bool} {op' : Int} {aa' tc' rd' ra' ad' cd' : Bool} {rc' : Int} {u1 u2 u3 u4 v1 v2 v3 v4 : Sl} {qs ps : List Qn} {r2 r3 r4 q2 q3 q4 : List Rec}
    (g0 g1 : Nat) (hpan : ∀ c a (d : Nat) v w, Q (.panic c) (a.put (some d) v) w → Q (.panic c) a w) (h0 : V.heap[g0]? = some (.cells #[.int .u16 (id : Int), .bool rs, .int .i64 op, .bool aa, .bool tc, .bool rd, .bool ra, .bool ad, .bool cd, .int .i64 rc, .slice u1.a u1.n u1.c, .slice u2.a u2.n u2.c, .slice u3.a u3.n u3.c, .slice u4.a u4.n u4.c] 26)) (h1 : V.heap[g1]? = some (.cells #[.int .u16 (id' : Int), .bool rs', .int .i64 op', .bool aa', .bool tc', .bool rd', .bool ra', .bool ad', .bool cd', .int .i64 rc', .slice v1.a v1.n v1.c, .slice v2.a v2.n v2.c, .slice v3.a v3.n v3.c, .slice v4.a v4.n v4.c] 26))
    (K1 : Hid (∀ W, Below V.heap.size V W → Calls Try.prog 9 #[.agg #[.int .u16 (id : Int), .bool rs, .int .i64 op, .bool aa, .bool tc, .bool rd, .bool ra, .bool ad, .bool cd, .int .i64 rc, .slice u1.a u1.n u1.c, .slice u2.a u2.n u2.c, .slice u3.a u3.n u3.c, .slice u4.a u4.n u4.c]] W fun e w' => ∃ s1 s2 s3 s4 : Sl, e = .returned (.agg #[.int .u16 (id : Int), .bool rs, .int .i64 op, .bool aa, .bool tc, .bool rd, .bool ra, .bool ad, .bool cd, .int .i64 rc, .slice s1.a s1.n s1.c, .slice s2.a s2.n s2.c, .slice s3.a s3.n s3.c, .slice s4.a s4.n s4.c]) ∧ Hid (Below W.heap.size W w' ∧ Cpy W.heap.size w'.heap.size w' s1 s2 s3 s4 qs r2 r3 r4)))
    (K2 : Hid (∀ W, Below V.heap.size V W → Calls Try.prog 9 #[.agg #[.int .u16 (id' : Int), .bool rs', .int .i64 op', .bool aa', .bool tc', .bool rd', .bool ra', .bool ad', .bool cd', .int .i64 rc', .slice v1.a v1.n v1.c, .slice v2.a v2.n v2.c, .slice v3.a v3.n v3.c, .slice v4.a v4.n v4.c]] W fun e w' => ∃ t1 t2 t3 t4 : Sl, e = .returned (.agg #[.int .u16 (id' : Int), .bool rs', .int .i64 op', .bool aa', .bool tc', .bool rd', .bool ra', .bool ad', .bool cd', .int .i64 rc', .slice t1.a t1.n t1.c, .slice t2.a t2.n t2.c, .slice t3.a t3.n t3.c, .slice t4.a t4.n t4.c]) ∧ Hid (Below W.heap.size W w' ∧ Cpy W.heap.size w'.heap.size w' t1 t2 t3 t4 ps q2 q3 q4)))
    (hfin : Hid (∀ (p q : Nat) (s1 s2 s3 s4 t1 t2 t3 t4 : Sl) (W : World), V.heap.size ≤ p → V.heap.size ≤ q → W.heap[p]? = some (.cells #[.int .u16 (id : Int), .bool rs, .int .i64 op, .bool aa, .bool tc, .bool rd, .bool ra, .bool ad, .bool cd, .int .i64 rc, .slice s1.a s1.n s1.c, .slice s2.a s2.n s2.c, .slice s3.a s3.n s3.c, .slice s4.a s4.n s4.c] 26) → W.heap[q]? = some (.cells #[.int .u16 (id' : Int), .bool rs', .int .i64 op', .bool aa', .bool tc', .bool rd', .bool ra', .bool ad', .bool cd', .int .i64 rc', .slice t1.a t1.n t1.c, .slice t2.a t2.n t2.c, .slice t3.a t3.n t3.c, .slice t4.a t4.n t4.c] 26) → MF W s1 s2 s3 s4 qs r2 r3 r4 → MF W t1 t2 t3 t4 ps q2 q3 q4 → Below V.heap.size V W → Q .normal (AT (.agg #[.int .u16 (id : Int), .bool rs, .int .i64 op, .bool aa, .bool tc, .bool rd, .bool ra, .bool ad, .bool cd, .int .i64 rc, .slice u1.a u1.n u1.c, .slice u2.a u2.n u2.c, .slice u3.a u3.n u3.c, .slice u4.a u4.n u4.c]) (.agg #[.int .u16 (id' : Int), .bool rs', .int .i64 op', .bool aa', .bool tc', .bool rd', .bool ra', .bool ad', .bool cd', .int .i64 rc', .slice v1.a v1.n v1.c, .slice v2.a v2.n v2.c, .slice v3.a v3.n v3.c, .slice v4.a v4.n v4.c]) c (ptr g0) (ptr g1) p2 (ptr p) (ptr q) (.agg #[.int .u16 (id : Int), .bool rs, .int .i64 op, .bool aa, .bool tc, .bool rd, .bool ra, .bool ad, .bool cd, .int .i64 rc, .slice u1.a u1.n u1.c, .slice u2.a u2.n u2.c, .slice u3.a u3.n u3.c, .slice u4.a u4.n u4.c]) (.agg #[.int .u16 (id : Int), .bool rs, .int .i64 op, .bool aa, .bool tc, .bool rd, .bool ra, .bool ad, .bool cd, .int .i64 rc, .slice s1.a s1.n s1.c, .slice s2.a s2.n s2.c, .slice s3.a s3.n s3.c, .slice s4.a s4.n s4.c]) (.agg #[.int .u16 (id' : Int), .bool rs', .int .i64 op', .bool aa', .bool tc', .bool rd', .bool ra', .bool ad', .bool cd', .int .i64 rc', .slice v1.a v1.n v1.c, .slice v2.a v2.n v2.c, .slice v3.a v3.n v3.c, .slice v4.a v4.n v4.c]) (.agg #[.int .u16 (id' : Int), .bool rs', .int .i64 op', .bool aa', .bool tc', .bool rd', .bool ra', .bool ad', .bool cd', .int .i64 rc', .slice t1.a t1.n t1.c, .slice t2.a t2.n t2.c, .slice t3.a t3.n t3.c, .slice t4.a t4.n t4.c])) W)) :
    (Code.region 3 ops3 true).wp Try.prog Q (AT (.agg #[.int .u16 (id : Int), .bool rs, .int .i64 op, .bool aa, .bool tc, .bool rd, .bool ra, .bool ad, .bool cd, .int .i64 rc, .slice u1.a u1.n u1.c, .slice u2.a u2.n u2.c, .slice u3.a u3.n u3.c, .slice u4.a u4.n u4.c]) (.agg #[.int .u16 (id' : Int), .bool rs', .int .i64 op', .bool aa', .bool tc', .bool rd', .bool ra', .bool ad', .bool cd', .int .i64 rc', .slice v1.a v1.n v1.c, .slice v2.a v2.n v2.c, .slice v3.a v3.n v3.c, .slice v4.a v4.n v4.c]) c (ptr g0) (ptr g1) p2 undef undef undef undef undef undef) V := by
  have HS : ∀ W, Below V.heap.size V W → ((W.cell? ⟨g0, 0, none⟩ = some (.int .u16 (id : Int)) ∧ W.cell? ⟨g0, 1, none⟩ = some (.bool rs) ∧ W.cell? ⟨g0, 2, none⟩ = some (.int .i64 op) ∧ W.cell? ⟨g0, 3, none⟩ = some (.bool aa) ∧ W.cell? ⟨g0, 4, none⟩ = some (.bool tc) ∧ W.cell? ⟨g0, 5, none⟩ = some (.bool rd) ∧ W.cell? ⟨g0, 6, none⟩ = some (.bool ra) ∧ W.cell? ⟨g0, 7, none⟩ = some (.bool ad) ∧ W.cell? ⟨g0, 8, none⟩ = some (.bool cd) ∧ W.cell? ⟨g0, 9, none⟩ = some (.int .i64 rc) ∧ W.cell? ⟨g0, 10, none⟩ = some (.slice u1.a u1.n u1.c) ∧ W.cell? ⟨g0, 11, none⟩ = some (.slice u2.a u2.n u2.c) ∧ W.cell? ⟨g0, 12, none⟩ = some (.slice u3.a u3.n u3.c) ∧ W.cell? ⟨g0, 13, none⟩ = some (.slice u4.a u4.n u4.c)) ∧ W.cell? ⟨g1, 0, none⟩ = some (.int .u16 (id' : Int)) ∧ W.cell? ⟨g1, 1, none⟩ = some (.bool rs') ∧ W.cell? ⟨g1, 2, none⟩ = some (.int .i64 op') ∧ W.cell? ⟨g1, 3, none⟩ = some (.bool aa') ∧ W.cell? ⟨g1, 4, none⟩ = some (.bool tc') ∧ W.cell? ⟨g1, 5, none⟩ = some (.bool rd') ∧ W.cell? ⟨g1, 6, none⟩ = some (.bool ra') ∧ W.cell? ⟨g1, 7, none⟩ = some (.bool ad') ∧ W.cell? ⟨g1, 8, none⟩ = some (.bool cd') ∧ W.cell? ⟨g1, 9, none⟩ = some (.int .i64 rc') ∧ W.cell? ⟨g1, 10, none⟩ = some (.slice v1.a v1.n v1.c) ∧ W.cell? ⟨g1, 11, none⟩ = some (.slice v2.a v2.n v2.c) ∧ W.cell? ⟨g1, 12, none⟩ = some (.slice v3.a v3.n v3.c) ∧ W.cell? ⟨g1, 13, none⟩ = some (.slice v4.a v4.n v4.c)) := fun W hb => by
    have e0 := (hb.block _ (block_lt h0)).trans h0
    have e1 := (hb.block _ (block_lt h1)).trans h1
    exact ⟨⟨cell_of_block e0 rfl, cell_of_block e0 rfl, cell_of_block e0 rfl, cell_of_block e0 rfl, cell_of_block e0 rfl, cell_of_block e0 rfl, cell_of_block e0 rfl, cell_of_block e0 rfl, cell_of_block e0 rfl, cell_of_block e0 rfl, cell_of_block e0 rfl, cell_of_block e0 rfl, cell_of_block e0 rfl, cell_of_block e0 rfl⟩, cell_of_block e1 rfl, cell_of_block e1 rfl, cell_of_block e1 rfl, cell_of_block e1 rfl, cell_of_block e1 rfl, cell_of_block e1 rfl, cell_of_block e1 rfl, cell_of_block e1 rfl, cell_of_block e1 rfl, cell_of_block e1 rfl, cell_of_block e1 rfl, cell_of_block e1 rfl, cell_of_block e1 rfl, cell_of_block e1 rfl⟩
  have hdr : Below V.heap.size V V.drew := (Below.refl V.heap.size V).drew
  refine wp_region_held_drew (S := fun W => ((W.cell? ⟨g0, 0, none⟩ = some (.int .u16 (id : Int)) ∧ W.cell? ⟨g0, 1, none⟩ = some (.bool rs) ∧ W.cell? ⟨g0, 2, none⟩ = some (.int .i64 op) ∧ W.cell? ⟨g0, 3, none⟩ = some (.bool aa) ∧ W.cell? ⟨g0, 4, none⟩ = some (.bool tc) ∧ W.cell? ⟨g0, 5, none⟩ = some (.bool rd) ∧ W.cell? ⟨g0, 6, none⟩ = some (.bool ra) ∧ W.cell? ⟨g0, 7, none⟩ = some (.bool ad) ∧ W.cell? ⟨g0, 8, none⟩ = some (.bool cd) ∧ W.cell? ⟨g0, 9, none⟩ = some (.int .i64 rc) ∧ W.cell? ⟨g0, 10, none⟩ = some (.slice u1.a u1.n u1.c) ∧ W.cell? ⟨g0, 11, none⟩ = some (.slice u2.a u2.n u2.c) ∧ W.cell? ⟨g0, 12, none⟩ = some (.slice u3.a u3.n u3.c) ∧ W.cell? ⟨g0, 13, none⟩ = some (.slice u4.a u4.n u4.c)) ∧ W.cell? ⟨g1, 0, none⟩ = some (.int .u16 (id' : Int)) ∧ W.cell? ⟨g1, 1, none⟩ = some (.bool rs') ∧ W.cell? ⟨g1, 2, none⟩ = some (.int .i64 op') ∧ W.cell? ⟨g1, 3, none⟩ = some (.bool aa') ∧ W.cell? ⟨g1, 4, none⟩ = some (.bool tc') ∧ W.cell? ⟨g1, 5, none⟩ = some (.bool rd') ∧ W.cell? ⟨g1, 6, none⟩ = some (.bool ra') ∧ W.cell? ⟨g1, 7, none⟩ = some (.bool ad') ∧ W.cell? ⟨g1, 8, none⟩ = some (.bool cd') ∧ W.cell? ⟨g1, 9, none⟩ = some (.int .i64 rc') ∧ W.cell? ⟨g1, 10, none⟩ = some (.slice v1.a v1.n v1.c) ∧ W.cell? ⟨g1, 11, none⟩ = some (.slice v2.a v2.n v2.c) ∧ W.cell? ⟨g1, 12, none⟩ = some (.slice v3.a v3.n v3.c) ∧ W.cell? ⟨g1, 13, none⟩ = some (.slice v4.a v4.n v4.c))) (by kernel_rfl) (HS _ hdr) (fun hHeld => ?_)
  refine wpAnyH_take (i := 0) (oi := { dst := some 22, op := Op.load 26 (Operand.tmp 3), type := 26, pos := "law.go:16", after := #[], guard := none }) (v := .agg #[.int .u16 (id : Int), .bool rs, .int .i64 op, .bool aa, .bool tc, .bool rd, .bool ra, .bool ad, .bool cd, .int .i64 rc, .slice u1.a u1.n u1.c, .slice u2.a u2.n u2.c, .slice u3.a u3.n u3.c, .slice u4.a u4.n u4.c]) rfl (by kernel_rfl) (by kernel_rfl) (by kernel_rfl) (fun c a w h => hpan c a _ _ w h) (Or.inl ⟨by rfl, ?_⟩) hHeld ?_
  · intro w hSw
    try dsimp only at hSw
    go_split_ands
    go_simp
  simp only [Act.put, List.setIfInBounds_toArray, List.set_cons_zero, List.set_cons_succ]
  refine wpAnyH_take (i := 2) (oi := { dst := some 24, op := Op.load 26 (Operand.tmp 4), type := 26, pos := "law.go:16", after := #[], guard := none }) (v := .agg #[.int .u16 (id' : Int), .bool rs', .int .i64 op', .bool aa', .bool tc', .bool rd', .bool ra', .bool ad', .bool cd', .int .i64 rc', .slice v1.a v1.n v1.c, .slice v2.a v2.n v2.c, .slice v3.a v3.n v3.c, .slice v4.a v4.n v4.c]) rfl (by kernel_rfl) (by kernel_rfl) (by kernel_rfl) (fun c a w h => hpan c a _ _ w h) (Or.inl ⟨by rfl, ?_⟩) hHeld ?_
  · intro w hSw
    try dsimp only at hSw
    go_split_ands
    go_simp
  simp only [Act.put, List.setIfInBounds_toArray, List.set_cons_zero, List.set_cons_succ]
  exact st_000 HS K1 K2 hfin _ hdr
end Go.Proofs.Ytmlccnpondemiaa
namespace Go.Proofs.Ytmlccnpondemiaa
open Go.ChangeShapes Go.WideShapes Go.ChangeAt Go.RowKit
set_option linter.unusedVariables false
set_option linter.unusedSimpArgs false
set_option maxRecDepth 100000 in
set_option maxHeartbeats 2000000 in
theorem apart_wide (B L N C : Nat) (es : List Elem) (w : World) (hN : es.length = N) (hNC : N ≤ C) (hNb : N ≤ 1000) (hB : B ≤ w.heap.size) (hBL : B ≤ L) (hlie : Lie B w L es) (hap : Apart L es) (hsm : ∀ k (h : k < es.length), es[k].2.2.length ≤ 140737488355328) :
    Calls Try.prog 13 #[.slice (some ⟨L, 0, none⟩) N C] w fun e w' => e = .returned (.bool true) ∧ Below B w w' := by
  have HN : Hid (es.length = N) := hN
  have HL : Hid (Lie B w L es) := hlie
  have HA : Hid (Apart L es) := hap
  have HS : Hid (∀ k (h : k < es.length), es[k].2.2.length ≤ 140737488355328) := hsm
  clear hN hlie hap hsm
  obtain ⟨i23, hi, hz0, hz1, hz2⟩ := info_parts Try.info30
  have HI : Hid (Try.prog.info? 30 = some i23 ∧ i23.zero = some (.slice none 0 0) ∧ i23.size = 1 ∧ i23.bytes = 24) := ⟨hi, hz0, hz1, hz2⟩
  clear hi hz0 hz1 hz2
  go_enter Try.func13, Try.ntmps13
  go_wp2_with fail
  go_loopw [3] (fun i wr => ∃ k : Nat, k ≤ N ∧ i = .int .i64 k ∧ Hid (Lie B wr L es) ∧ Below B w wr) (fun i _ => N - (intOf i).toNat)
  case atStart => exact ⟨0, by omega, rfl, HL, Below.refl _ _⟩
  case round =>
    obtain ⟨i, hi, rfl, HD, hbel⟩ := hrel
    by_cases hlt : i < N
    · have hlt' : (i : Int) < (N : Int) := by omega
      have hBr : B ≤ wr.heap.size := Nat.le_trans hB hbel.size
      go_wp2_with (at_make; refine wpList_make_full _ rfl _ _ _ rfl wr.heap.size 30 i23 (.slice none 0 0) 1 Try.underlying36 HI.out.1 HI.out.2.1 HI.out.2.2.1 _ _ _ _ N rfl rfl rfl rfl (by rw [HI.out.2.2.2]; omega) (by simp only [maxLen]; omega) (Nat.le_refl _) ?_; intro w1 hown hgr)
      have hbel1 : Below wr.heap.size wr w1 := ⟨hgr.os, hgr.tape, hgr.output, hgr.size, fun k hk => hgr.block k hk (by simp)⟩
      obtain ⟨S, hS⟩ : ∃ S, S = wr.heap.size := ⟨_, rfl⟩
      have HLS : Hid (∀ k (h : k < es.length) g, blk es[k].1 = some g → g < S) := fun k h g hg => by rw [hS]; exact ((HD.out.2 k h).2.lt g hg).2
      have hLS : L < S := by rw [hS]; exact HD.out.1
      have hBS : B ≤ S := by rw [hS]; exact hBr
      have HC0 : Hid (Copies S w1 es 0) := by rw [hS]; exact copies_zero es HN.out hown
      have HD1 : Hid (Lie B w1 L es) := HD.out.below hbel1
      have hb1 : Below B w w1 := hbel.trans (hbel1.mono hBr)
      rw [← hS]
      clear hown hgr hbel1 HD hbel hBr hS
      go_loopw [5] (fun x w2 => ∃ k : Nat, k ≤ N ∧ x = .int .i64 k ∧ Hid (Lie B w2 L es) ∧ Hid (Copies S w2 es k) ∧ Below B w w2) (fun x _ => N - (intOf x).toNat)
      case atStart => exact ⟨0, by omega, rfl, HD1, HC0, hb1⟩
      case round =>
        obtain ⟨k, hk, rfl, HD2, HC2, hb2⟩ := hrel
        clear HD1 HC0 hb1
        by_cases hkl : k < N
        · have hkl' : (k : Int) < (N : Int) := by omega
          have hke : k < es.length := by rw [HN.out]; exact hkl
          obtain ⟨ao, hao⟩ : ∃ ao, es[k].1 = ao := ⟨_, rfl⟩
          obtain ⟨n, hn⟩ : ∃ n, es[k].2.1 = n := ⟨_, rfl⟩
          obtain ⟨c, hc⟩ : ∃ c, es[k].2.2.length = c := ⟨_, rfl⟩
          have hcL := (HD2.out.2 k hke).1
          rw [hao, hn, hc] at hcL
          have hle := (HD2.out.2 k hke).2.le
          rw [hn, hc] at hle
          obtain ⟨hnc, hcm⟩ := hle
          unfold maxLen at hcm
          have HX : Hid (∀ W : World, Below B w W → Lie B W L es → Copies S W es k → Calls Try.prog 28 #[.slice ao c c] W fun e w' => ∃ a' c', e = .returned (.slice a' c c') ∧ w'.cell? ⟨L, k, none⟩ = some (.slice ao n c) ∧ (∃ u, w'.cell? ⟨S, k, none⟩ = some u) ∧ w'.frozen? ⟨S, k, none⟩ = false ∧ Hid (Below B w w' ∧ Lie B w' L es ∧ Copies S w' es k ∧ Rd w' a' es[k].2.2 ∧ ∀ b o, a' = some ⟨b, o, none⟩ → S < b)) := by
            intro W h0 h1 h2
            have hx := copy_any ao c es[k].2.2 W (by rw [← hao]; exact (h1.2 k hke).2.rd) (by rw [← hao, ← hc]; exact (h1.2 k hke).2.nil) (HS.out k hke)
            rw [hc] at hx
            refine hx.mono ?_
            rintro e w' ⟨v, ys, rfl, hO, hT, hbl⟩
            obtain ⟨a', rfl, hOA⟩ := hO.addr
            have l1 := h1.below hbl
            have c1 := h2.below hbl
            refine ⟨a', _, rfl, ?_, (c1.2.1 k hke).1, (c1.2.1 k hke).2, h0.trans (hbl.mono (Nat.le_trans hB h0.size)), l1, c1, ?_, ?_⟩
            · have := (l1.2 k hke).1
              rw [hao, hn, hc] at this
              exact this
            · have := hOA.rdTake c
              rw [hT] at this
              exact this
            · rintro b o rfl
              have := (hOA.lt b rfl).1
              have := h2.1
              omega
          clear hao hn
          have HC : Hid (es[k].2.2.length = c) := hc
          clear hc
          have hne : ¬ S = L := by omega
          go_wp2_with fail
          go_region_held3 (fun W => W.cell? ⟨L, k, none⟩ = some (.slice ao n c)) (go_keep) (first
            | (go_at_call 28; refine (HX.out _ ?_ ?_ ?_).mono ?_; exact hb2.drew; exact HD2.out.below (Below.refl _ _).drew; exact HC2.out.below (Below.refl _ _).drew; rintro e w3 ⟨a', c', rfl, hcl, ⟨u, hcu⟩, hfr, HH⟩))
          obtain ⟨q1, q2, q3, q4, q5⟩ := HH.out
          have hst : Copies S (w3.setCell ⟨S, k, none⟩ (.slice a' c c')) es (k + 1) := by
            have := q3.stored hke a' c' q4 q5
            rw [HC.out] at this
            exact this
          have hli : Lie B (w3.setCell ⟨S, k, none⟩ (.slice a' c c')) L es := q2.stored hLS HLS.out k _
          have hbb : Below B w (w3.setCell ⟨S, k, none⟩ (.slice a' c c')) := q1.setCell hBS _
          clear q1 q2 q3 q4 q5 hcl hcu hfr
          go_wp2
          exact ⟨⟨k + 1, by omega, by go_num, hli, hst, hbb⟩, by simp [intOf]; omega⟩
        · have HC3 : Hid (Copies S wr es N) := by
            have e : k = N := by omega
            rw [← e]; exact HC2
          clear HC2
          have hie : i < es.length := by rw [HN.out]; exact hlt
          obtain ⟨ao, hao⟩ : ∃ ao, es[i].1 = ao := ⟨_, rfl⟩
          obtain ⟨n, hn⟩ : ∃ n, es[i].2.1 = n := ⟨_, rfl⟩
          obtain ⟨c, hc⟩ : ∃ c, es[i].2.2.length = c := ⟨_, rfl⟩
          have hcL := (HD2.out.2 i hie).1
          rw [hao, hn, hc] at hcL
          have HO : Hid (OwnA B wr ao n es[i].2.2) := by
            have := (HD2.out.2 i hie).2
            rw [hao, hn] at this; exact this
          have HV : Hid (es[i].1 = ao ∧ es[i].2.1 = n ∧ es[i].2.2.length = c) := ⟨hao, hn, hc⟩
          clear hao hn hc
          have HY : Hid (∀ (W : World) (zs : List Int), OwnA B W ao n zs → zs.length = c → Calls Try.prog 29 #[.slice ao n c] W fun e w' => e = .returned (.tuple #[]) ∧ Hid (OwnA B w' ao n (zs.map x90) ∧ W.grownBy w' (blk ao) ∧ w'.heap.size = W.heap.size)) := by
            intro W zs h1 h2
            have := over_any B ao n zs W h1
            rw [h2] at this
            exact this
          go_wp2_with fail
          refine (HY.out _ _ HO.out HV.out.2.2).mono ?_
          rintro e w4 ⟨rfl, HW⟩
          obtain ⟨q1, q2, q3⟩ := HW.out
          obtain ⟨v1, v2, v3⟩ := HV.out
          obtain ⟨es', hes'⟩ : ∃ es', es' = es.set i (es[i].1, es[i].2.1, es[i].2.2.map x90) := ⟨_, rfl⟩
          have HD4 : Hid (Lie B w4 L es') := by
            rw [hes']
            exact HD2.out.wrote HA.out i hie _ (by simp) (by rw [v1]; exact q2) q3 (by rw [v1, v2]; exact q1)
          have hrow : ∀ g, blk ao = some g → g < S ∧ B ≤ g := by
            intro g hg
            rw [← v1] at hg
            exact ⟨HLS.out i hie g hg, ((HD2.out.2 i hie).2.lt g hg).1⟩
          have HC4 : Hid (Copies S w4 es N) := HC3.out.wrote q2 (fun g hg => (hrow g hg).1)
          have hb4 : Below B w w4 := hb2.grown q2 (Nat.le_trans hB hb2.size) (fun g hg => (hrow g hg).2)
          have HE : Hid (es' = es.set i (es[i].1, es[i].2.1, es[i].2.2.map x90)) := hes'
          have HRW : Hid (∀ g, blk ao = some g → g < S ∧ B ≤ g) := hrow
          clear q1 q2 q3 v1 v2 v3 hes' hrow HD2 HC3 hb2 HO hcL HW
          go_wp2_with fail
          go_loopw [2, 6] (fun _ x w5 => ∃ k : Nat, k ≤ N ∧ x = .int .i64 k ∧ Hid (Lie B w5 L es') ∧ Hid (Copies S w5 es N) ∧ Below B w w5) (fun _ x _ => N - (intOf x).toNat)
          case atStart => exact ⟨0, by omega, rfl, HD4, HC4, hb4⟩
          case round =>
            obtain ⟨m, hm, rfl, HD5, HC5, hb5⟩ := hrel
            clear HD4 HC4 hb4
            by_cases hml : m < N
            · have hml' : (m : Int) < (N : Int) := by omega
              have hme : m < es.length := by rw [HN.out]; exact hml
              by_cases hmi : m = i
              · have hg1 : ((m : Int) != (i : Int)) = false := by simp [hmi]
                clear hmi
                go_wp2_with fail
                go_quiet (fail)
                have hdn : Below wr.heap.size wr (wr.drewN nq) := ⟨rfl, rfl, rfl, Nat.le_refl _, fun _ _ => rfl⟩
                have hli := HD5.out.below hdn
                have hco := HC5.out.below hdn
                have hbb := hb5.trans (hdn.mono (Nat.le_trans hB hb5.size))
                clear hdn
                go_wp2
                exact ⟨⟨m + 1, by omega, by go_num, hli, hco, hbb⟩, by simp [intOf]; omega⟩
              · have hg1 : ((m : Int) != (i : Int)) = true := by simp; omega
                have hm' : m < es'.length := by rw [HE.out]; simpa using hme
                have hsame : es'[m] = es[m] := by
                  have e := HE.out
                  subst e
                  exact List.getElem_set_ne (fun e => hmi e.symm) _
                obtain ⟨am, ham⟩ : ∃ x, es[m].1 = x := ⟨_, rfl⟩
                obtain ⟨nm, hnm⟩ : ∃ x, es[m].2.1 = x := ⟨_, rfl⟩
                obtain ⟨cm, hcm⟩ : ∃ x, es[m].2.2.length = x := ⟨_, rfl⟩
                have hL5 := HD5.out.2 m hm'
                rw [hsame] at hL5
                obtain ⟨hcl, ho5⟩ := hL5
                obtain ⟨a', c', hcs, hrd, _⟩ := HC5.out.2.2 m hme hml
                rw [ham, hnm, hcm] at hcl
                rw [hcm] at hcs
                have hle := ho5.le
                rw [hnm, hcm] at hle
                obtain ⟨hnc, hcmx⟩ := hle
                unfold maxLen at hcmx
                have hrd1 := ho5.rd
                rw [ham] at hrd1
                have HZ : Hid (∀ W : World, Below wr.heap.size wr W → Calls Try.prog 12 #[.slice am cm cm, .slice a' cm c'] W fun e w' => e = .returned (.bool true) ∧ w' = W) := by
                  intro W hW
                  exact same_yes am a' cm cm c' _ W (hrd1.below hW) (hrd.below hW) hcm
                clear hsame ham hnm hcm ho5 hrd hrd1 hmi hm'
                go_wp2_with fail
                go_region_held3 (fun W => W.cell? ⟨L, m, none⟩ = some (.slice am nm cm) ∧ W.cell? ⟨S, m, none⟩ = some (.slice a' cm c')) (go_keep) (first
                  | (go_at_call 12; refine (HZ.out _ ?_).mono ?_; exact (Below.refl _ _).drew; rintro e w6 ⟨rfl, rfl⟩))
                have hdn : Below wr.heap.size wr wr.drew := (Below.refl _ _).drew
                have hli := HD5.out.below hdn
                have hco := HC5.out.below hdn
                have hbb := hb5.trans (hdn.mono (Nat.le_trans hB hb5.size))
                clear hdn hcl hcs
                go_wp2
                exact ⟨⟨m + 1, by omega, by go_num, hli, hco, hbb⟩, by simp [intOf]; omega⟩
            · have HO : Hid (OwnA B wr ao n (es[i].2.2.map x90)) := by
                have e := HE.out
                subst e
                have := (HD5.out.2 i (by simpa using hie)).2
                rw [List.getElem_set_self] at this
                rw [HV.out.1, HV.out.2.1] at this
                exact this
              have hcL : wr.cell? ⟨L, i, none⟩ = some (.slice ao n c) := by
                have e := HE.out
                subst e
                have := (HD5.out.2 i (by simpa using hie)).1
                rw [List.getElem_set_self] at this
                simp only [List.length_map] at this
                rw [HV.out.1, HV.out.2.1, HV.out.2.2] at this
                exact this
              go_wp2_with fail
              refine (HY.out _ _ HO.out (by rw [List.length_map]; exact HV.out.2.2)).mono ?_
              rintro e w7 ⟨rfl, HW⟩
              obtain ⟨q1, q2, q3⟩ := HW.out
              obtain ⟨v1, v2, v3⟩ := HV.out
              have hli : Lie B w7 L es := by
                have e := HE.out
                have hes : es = es'.set i (es[i].1, es[i].2.1, (es[i].2.2.map x90).map x90) := by
                  rw [e, List.set_set, map_x90_x90 _ (HL.out.2 i hie).2.rd.2]
                  exact (List.set_getElem_self hie).symm
                have hi' : i < es'.length := by rw [e]; simpa using hie
                have e1 : es'[i] = (es[i].1, es[i].2.1, es[i].2.2.map x90) := by subst e; exact List.getElem_set_self _
                have hw := HD5.out.wrote (by rw [e]; exact HA.out.set i hie _) i hi' ((es[i].2.2.map x90).map x90) (by rw [e1]; simp) (by rw [e1]; show World.grownBy _ _ (blk es[i].1); rw [v1]; exact q2) q3 (by rw [e1]; show OwnA B w7 es[i].1 es[i].2.1 _; rw [v1, v2]; exact q1)
                rw [e1] at hw
                rw [hes]
                exact hw
              have hbb : Below B w w7 := hb5.grown q2 (Nat.le_trans hB hb5.size) (fun g hg => (HRW.out g hg).2)
              clear q1 q2 q3 v1 v2 v3 hcL
              go_wp2
              exact ⟨⟨i + 1, by omega, by go_num, hli, hbb⟩, by simp [intOf]; omega⟩
    · obtain rfl : i = N := by omega
      go_wp2
      go_ret
      exact ⟨rfl, hbel⟩
end Go.Proofs.Ytmlccnpondemiaa
namespace Go.Proofs.Ytmlccnpondemiaa
open Go.ChangeShapes Go.WideShapes Go.ChangeAt Go.RowKit
set_option linter.unusedVariables false
set_option linter.unusedSimpArgs false
def bt (b : Bool) (v : Int) : Int := if b then v else 0
theorem bt_bd (b : Bool) (v : Int) (h : 0 ≤ v) : 0 ≤ bt b v ∧ bt b v ≤ v := by unfold bt; split <;> omega
theorem bt_wt (b : Bool) (v : Nat) : bt b (v : Int) = (wt b v : Int) := by cases b <;> rfl
theorem bit27 (b : Bool) (v : Int) (w : World) : Calls Try.prog 27 #[.bool b, .int .i64 v] w fun e w' => e = .returned (.int .i64 (bt b v)) ∧ w' = w := by
  cases b
  · go_enter Try.func27, Try.ntmps27
    go_wp2
    go_ret
    exact ⟨rfl, rfl⟩
  · go_enter Try.func27, Try.ntmps27
    go_wp2
    go_ret
    exact ⟨rfl, rfl⟩
/-- What the document's Bytes answers. -/
def RbPost (w : World) (ns : List Int) (e : Ending) (w' : World) : Prop :=
  ((∀ m ∈ ns, okN m) → ∃ v zs, e = .returned (.tuple #[v, .int .i64 0]) ∧ Own w.heap.size w' v 12 zs ∧ zs.take 12 = b16s ns) ∧
  ((¬ ∀ m ∈ ns, okN m) → e = .returned (.tuple #[.slice none 0 0, .int .i64 2])) ∧ Below w.heap.size w w'
set_option maxHeartbeats 1000000 in
theorem ref11_arg (id : Int) (rs : Bool) (op : Int) (aa tc rd ra ad cd : Bool) (rc : Int) (a1 a2 a3 a4 : Option Addr) (n1 n2 n3 n4 k1 k2 k3 k4 : Nat) (c0 c1 c2 c3 : Int) (w : World)
    (h : ¬ (0 ≤ op ∧ op ≤ 15 ∧ 0 ≤ rc ∧ rc ≤ 15)) :
    Calls Try.prog 11 #[.agg #[.int .u16 id, .bool rs, .int .i64 op, .bool aa, .bool tc, .bool rd, .bool ra, .bool ad, .bool cd, .int .i64 rc, .slice a1 n1 k1, .slice a2 n2 k2, .slice a3 n3 k3, .slice a4 n4 k4], .agg #[.int .i64 c0, .int .i64 c1, .int .i64 c2, .int .i64 c3]] w fun e w' => e = .returned (.tuple #[.slice none 0 0, .int .i64 2]) ∧ Below w.heap.size w w' := by
  have H : op < 0 ∨ (0 ≤ op ∧ 15 < op) ∨ (0 ≤ op ∧ op ≤ 15 ∧ rc < 0) ∨ (0 ≤ op ∧ op ≤ 15 ∧ 0 ≤ rc ∧ 15 < rc) := by omega
  clear h
  rcases H with h | ⟨h0, h⟩ | ⟨h0, h1, h⟩ | ⟨h0, h1, h2, h⟩
  all_goals
    go_enter Try.func11, Try.ntmps11
    go_wp2
    go_ret2
    exact ⟨rfl, ((Below.refl _ _).alloc (Nat.le_refl _) _).alloc (by simp) _⟩
theorem pack_bt {op rc : Nat} (ho : op < 16) (hr : rc < 16) (rs aa tc rd ra ad cd : Bool) : (packN op rc rs aa tc rd ra ad cd : Int) = (bt rs 128 + 8 * (op : Int) + bt aa 4 + bt tc 2 + bt rd 1) * 256 + (bt ra 128 + bt ad 32 + bt cd 16 + (rc : Int)) := by
  rw [pack_bytes ho hr]
  have e1 : bt rs 128 = (wt rs 128 : Int) := bt_wt rs 128
  have e2 : bt aa 4 = (wt aa 4 : Int) := bt_wt aa 4
  have e3 : bt tc 2 = (wt tc 2 : Int) := bt_wt tc 2
  have e4 : bt rd 1 = (wt rd 1 : Int) := bt_wt rd 1
  have e5 : bt ra 128 = (wt ra 128 : Int) := bt_wt ra 128
  have e6 : bt ad 32 = (wt ad 32 : Int) := bt_wt ad 32
  have e7 : bt cd 16 = (wt cd 16 : Int) := bt_wt cd 16
  rw [e1, e2, e3, e4, e5, e6, e7]
  omega
end Go.Proofs.Ytmlccnpondemiaa
namespace Go.Proofs.Ytmlccnpondemiaa
open Go.ChangeShapes Go.WideShapes Go.ChangeAt Go.RowKit
set_option linter.unusedVariables false
set_option linter.unusedSimpArgs false
set_option maxHeartbeats 2000000 in
theorem ref11_ok (id : Nat) (rs : Bool) (op : Nat) (aa tc rd ra ad cd : Bool) (rc : Nat) (a1 a2 a3 a4 : Option Addr) (n1 n2 n3 n4 k1 k2 k3 k4 : Nat) (c0 c1 c2 c3 : Int) (w : World)
    (hi : id < 65536) (ho : op < 16) (hr : rc < 16) (hkk : okN c0 ∧ okN c1 ∧ okN c2 ∧ okN c3) :
    Calls Try.prog 11 #[.agg #[.int .u16 (id : Int), .bool rs, .int .i64 (op : Int), .bool aa, .bool tc, .bool rd, .bool ra, .bool ad, .bool cd, .int .i64 (rc : Int), .slice a1 n1 k1, .slice a2 n2 k2, .slice a3 n3 k3, .slice a4 n4 k4], .agg #[.int .i64 c0, .int .i64 c1, .int .i64 c2, .int .i64 c3]] w fun e w' => RbPost w (nsL id (packN op rc rs aa tc rd ra ad cd : Nat) c0 c1 c2 c3) e w' := by
  have h1 : ¬ (op : Int) < 0 := by omega
  have h2 : (op : Int) ≤ 15 := by omega
  have h3 : ¬ (rc : Int) < 0 := by omega
  have h4 : (rc : Int) ≤ 15 := by omega
  have g1 := bt_bd rs 128 (by omega)
  have g2 := bt_bd aa 4 (by omega)
  have g3 := bt_bd tc 2 (by omega)
  have g4 := bt_bd rd 1 (by omega)
  have g5 := bt_bd ra 128 (by omega)
  have g6 := bt_bd ad 32 (by omega)
  have g7 := bt_bd cd 16 (by omega)
  by_cases hk : okN c0 ∧ okN c1 ∧ okN c2 ∧ okN c3
  · obtain ⟨⟨u0, t0⟩, ⟨u1, t1⟩, ⟨u2, t2⟩, ⟨u3, t3⟩⟩ := hk
    go_enter Try.func11, Try.ntmps11
    go_wp2_with fail
    obtain ⟨W0, hW0⟩ : ∃ W0, W0 = (w.alloc (.cells #[.int .u16 (id : Int), .bool rs, .int .i64 (op : Int), .bool aa, .bool tc, .bool rd, .bool ra, .bool ad, .bool cd, .int .i64 (rc : Int), .slice a1 n1 k1, .slice a2 n2 k2, .slice a3 n3 k3, .slice a4 n4 k4] 26)).alloc (.cells #[.int .i64 c0, .int .i64 c1, .int .i64 c2, .int .i64 c3] 27) := ⟨_, rfl⟩
    rw [← hW0]
    have HW0 : Hid (Below w.heap.size w W0 ∧ W0.heap[w.heap.size]? = some (.cells #[.int .u16 (id : Int), .bool rs, .int .i64 (op : Int), .bool aa, .bool tc, .bool rd, .bool ra, .bool ad, .bool cd, .int .i64 (rc : Int), .slice a1 n1 k1, .slice a2 n2 k2, .slice a3 n3 k3, .slice a4 n4 k4] 26) ∧ W0.heap[w.heap.size + 1]? = some (.cells #[.int .i64 c0, .int .i64 c1, .int .i64 c2, .int .i64 c3] 27)) := by
      rw [hW0]
      refine ⟨((Below.refl _ _).alloc (Nat.le_refl _) _).alloc (by simp) _, block_alloc (alloc_at _ _) _, ?_⟩
      have := alloc_at (w.alloc (.cells #[.int .u16 (id : Int), .bool rs, .int .i64 (op : Int), .bool aa, .bool tc, .bool rd, .bool ra, .bool ad, .bool cd, .int .i64 (rc : Int), .slice a1 n1 k1, .slice a2 n2 k2, .slice a3 n3 k3, .slice a4 n4 k4] 26)) (.cells #[.int .i64 c0, .int .i64 c1, .int .i64 c2, .int .i64 c3] 27)
      simp only [World.size_alloc] at this
      exact this
    clear hW0
    have p0 := block_lt HW0.out.2.1
    have p1 := block_lt HW0.out.2.2
    have x0 : W0.cell? ⟨w.heap.size, 0, none⟩ = some (.int .u16 (id : Int)) := cell_of_block HW0.out.2.1 rfl
    have x1 : W0.cell? ⟨w.heap.size, 1, none⟩ = some (.bool rs) := cell_of_block HW0.out.2.1 rfl
    have x2 : W0.cell? ⟨w.heap.size, 2, none⟩ = some (.int .i64 (op : Int)) := cell_of_block HW0.out.2.1 rfl
    have x3 : W0.cell? ⟨w.heap.size, 3, none⟩ = some (.bool aa) := cell_of_block HW0.out.2.1 rfl
    have x4 : W0.cell? ⟨w.heap.size, 4, none⟩ = some (.bool tc) := cell_of_block HW0.out.2.1 rfl
    have x5 : W0.cell? ⟨w.heap.size, 5, none⟩ = some (.bool rd) := cell_of_block HW0.out.2.1 rfl
    have x6 : W0.cell? ⟨w.heap.size, 6, none⟩ = some (.bool ra) := cell_of_block HW0.out.2.1 rfl
    have x7 : W0.cell? ⟨w.heap.size, 7, none⟩ = some (.bool ad) := cell_of_block HW0.out.2.1 rfl
    have x8 : W0.cell? ⟨w.heap.size, 8, none⟩ = some (.bool cd) := cell_of_block HW0.out.2.1 rfl
    have x9 : W0.cell? ⟨w.heap.size, 9, none⟩ = some (.int .i64 (rc : Int)) := cell_of_block HW0.out.2.1 rfl
    have y0 : W0.cell? ⟨w.heap.size + 1, 0, none⟩ = some (.int .i64 c0) := cell_of_block HW0.out.2.2 rfl
    have y1 : W0.cell? ⟨w.heap.size + 1, 1, none⟩ = some (.int .i64 c1) := cell_of_block HW0.out.2.2 rfl
    have y2 : W0.cell? ⟨w.heap.size + 1, 2, none⟩ = some (.int .i64 c2) := cell_of_block HW0.out.2.2 rfl
    have y3 : W0.cell? ⟨w.heap.size + 1, 3, none⟩ = some (.int .i64 c3) := cell_of_block HW0.out.2.2 rfl
    go_loopw [6] (fun y wr => ∃ k : Nat, k ≤ 4 ∧ y = .int .i64 (k : Int) ∧ wr = W0) (fun y _ => 4 - (intOf y).toNat)
    case atStart => exact ⟨0, by omega, rfl, rfl⟩
    case round =>
      obtain ⟨k, hk, rfl, rfl⟩ := hrel
      rcases Nat.lt_or_ge k 1 with hk' | hk'
      · obtain rfl : k = 0 := by omega
        go_wp2
        exact ⟨⟨1, by omega, rfl, trivial⟩, by simp [intOf]⟩
      rcases Nat.lt_or_ge k 2 with hk' | hk'
      · obtain rfl : k = 1 := by omega
        go_wp2
        exact ⟨⟨2, by omega, rfl, trivial⟩, by simp [intOf]⟩
      rcases Nat.lt_or_ge k 3 with hk' | hk'
      · obtain rfl : k = 2 := by omega
        go_wp2
        exact ⟨⟨3, by omega, rfl, trivial⟩, by simp [intOf]⟩
      rcases Nat.lt_or_ge k 4 with hk' | hk'
      · obtain rfl : k = 3 := by omega
        go_wp2
        exact ⟨⟨4, by omega, rfl, trivial⟩, by simp [intOf]⟩
      · obtain rfl : k = 4 := by omega
        go_wp2_with fail
        go_quiet (first | (go_at_call 27; refine Calls.quiet_of_same (bit27 _ _ _)) | fail)
        go_wp2_with fail
        obtain ⟨W1, hW1⟩ : ∃ W1, W1 = wr.drewN nq := ⟨_, rfl⟩
        rw [← hW1]
        have HW1 : Hid (Below w.heap.size w W1 ∧ W1.heap[w.heap.size]? = some (.cells #[.int .u16 (id : Int), .bool rs, .int .i64 (op : Int), .bool aa, .bool tc, .bool rd, .bool ra, .bool ad, .bool cd, .int .i64 (rc : Int), .slice a1 n1 k1, .slice a2 n2 k2, .slice a3 n3 k3, .slice a4 n4 k4] 26) ∧ W1.heap[w.heap.size + 1]? = some (.cells #[.int .i64 c0, .int .i64 c1, .int .i64 c2, .int .i64 c3] 27)) := by
          rw [hW1]
          exact ⟨HW0.out.1.trans ⟨rfl, rfl, rfl, Nat.le_refl _, fun _ _ => rfl⟩, HW0.out.2.1, HW0.out.2.2⟩
        clear hW1 x0 x1 x2 x3 x4 x5 x6 x7 x8 x9 y0 y1 y2 y3 p0 p1
        have p0 := block_lt HW1.out.2.1
        have p1 := block_lt HW1.out.2.2
        have x0 : W1.cell? ⟨w.heap.size, 0, none⟩ = some (.int .u16 (id : Int)) := cell_of_block HW1.out.2.1 rfl
        have x1 : W1.cell? ⟨w.heap.size, 1, none⟩ = some (.bool rs) := cell_of_block HW1.out.2.1 rfl
        have x2 : W1.cell? ⟨w.heap.size, 2, none⟩ = some (.int .i64 (op : Int)) := cell_of_block HW1.out.2.1 rfl
        have x3 : W1.cell? ⟨w.heap.size, 3, none⟩ = some (.bool aa) := cell_of_block HW1.out.2.1 rfl
        have x4 : W1.cell? ⟨w.heap.size, 4, none⟩ = some (.bool tc) := cell_of_block HW1.out.2.1 rfl
        have x5 : W1.cell? ⟨w.heap.size, 5, none⟩ = some (.bool rd) := cell_of_block HW1.out.2.1 rfl
        have x6 : W1.cell? ⟨w.heap.size, 6, none⟩ = some (.bool ra) := cell_of_block HW1.out.2.1 rfl
        have x7 : W1.cell? ⟨w.heap.size, 7, none⟩ = some (.bool ad) := cell_of_block HW1.out.2.1 rfl
        have x8 : W1.cell? ⟨w.heap.size, 8, none⟩ = some (.bool cd) := cell_of_block HW1.out.2.1 rfl
        have x9 : W1.cell? ⟨w.heap.size, 9, none⟩ = some (.int .i64 (rc : Int)) := cell_of_block HW1.out.2.1 rfl
        have y0 : W1.cell? ⟨w.heap.size + 1, 0, none⟩ = some (.int .i64 c0) := cell_of_block HW1.out.2.2 rfl
        have y1 : W1.cell? ⟨w.heap.size + 1, 1, none⟩ = some (.int .i64 c1) := cell_of_block HW1.out.2.2 rfl
        have y2 : W1.cell? ⟨w.heap.size + 1, 2, none⟩ = some (.int .i64 c2) := cell_of_block HW1.out.2.2 rfl
        have y3 : W1.cell? ⟨w.heap.size + 1, 3, none⟩ = some (.int .i64 c3) := cell_of_block HW1.out.2.2 rfl
        go_quiet (first | (go_at_call 27; refine Calls.quiet_of_same (bit27 _ _ _)) | fail)
        go_wp2_with fail
        obtain ⟨W2, hW2⟩ : ∃ W2, W2 = (W1.drewN nq).alloc (.cells #[.int .u8 ((id : Int) / 256), .int .u8 ((id : Int) % 256), .int .u8 (bt rs 128 + 8 * (op : Int) + bt aa 4 + bt tc 2 + bt rd 1), .int .u8 (bt ra 128 + bt ad 32 + bt cd 16 + (rc : Int))] 5) := ⟨_, rfl⟩
        rw [← hW2]
        have hF := pack_bt ho hr rs aa tc rd ra ad cd
        have HNS : Hid (b16s ((nsL id (packN op rc rs aa tc rd ra ad cd : Nat) c0 c1 c2 c3).take 2) = [(id : Int) / 256, (id : Int) % 256, bt rs 128 + 8 * (op : Int) + bt aa 4 + bt tc 2 + bt rd 1, bt ra 128 + bt ad 32 + bt cd 16 + (rc : Int)] ∧ (∀ m ∈ nsL id (packN op rc rs aa tc rd ra ad cd : Nat) c0 c1 c2 c3, okN m)) := by
          rw [hF]
          constructor
          · simp only [nsL, b16s, b16, List.take_succ_cons, List.take_zero, List.flatMap_cons, List.flatMap_nil, List.cons_append, List.nil_append, List.append_nil]
            simp only [List.cons.injEq, and_true]
            refine ⟨trivial, trivial, ?_, ?_⟩ <;> omega
          · intro m hm
            simp only [nsL, List.mem_cons, List.not_mem_nil, or_false] at hm
            unfold okN
            omega
        have HP : Hid (w.heap.size + 1 < W1.heap.size) := block_lt HW1.out.2.2
        have H0 : Hid (Own W1.heap.size W2 (.slice (some ⟨W1.heap.size, 0, none⟩) 4 4) 4 [(id : Int) / 256, (id : Int) % 256, bt rs 128 + 8 * (op : Int) + bt aa 4 + bt tc 2 + bt rd 1, bt ra 128 + bt ad 32 + bt cd 16 + (rc : Int)] ∧ Below w.heap.size w W2 ∧ W2.heap[w.heap.size + 1]? = some (.cells #[.int .i64 c0, .int .i64 c1, .int .i64 c2, .int .i64 c3] 27) ∧ W1.heap.size ≤ W2.heap.size) := by
          rw [hW2]
          have hd : Below w.heap.size w (W1.drewN nq) := HW1.out.1.trans ⟨rfl, rfl, rfl, Nat.le_refl _, fun _ _ => rfl⟩
          refine ⟨.inr ⟨W1.heap.size, rfl, Nat.le_refl _, ⟨alloc_at (W1.drewN nq) _, ?_⟩, by simp, by simp [maxLen]⟩, hd.alloc hd.size _, block_alloc (W := W1.drewN nq) HW1.out.2.2 _, by rw [World.size_alloc]; exact Nat.le_succ _⟩
          intro z hz
          simp only [List.mem_cons, List.not_mem_nil, or_false] at hz
          omega
        obtain ⟨ns, hns⟩ : ∃ ns, nsL id (packN op rc rs aa tc rd ra ad cd : Nat) c0 c1 c2 c3 = ns := ⟨_, rfl⟩
        rw [hns] at HNS
        have HE : Hid (nsL id (packN op rc rs aa tc rd ra ad cd : Nat) c0 c1 c2 c3 = ns) := hns
        have HK : Hid (∀ j m, [c0, c1, c2, c3][j]? = some m → ns[j + 2]? = some m) := by intro j m h; rw [← hns]; exact h
        have HLN : Hid (ns.length = 6) := by rw [← hns]; rfl
        clear hns hF hW2 HW1 x0 x1 x2 x3 x4 x5 x6 x7 x8 x9 y0 y1 y2 y3 p0 p1 HW0
        go_loopw [9, 10] (fun v y ws => ∃ k : Nat, k ≤ 4 ∧ y = .int .i64 (k : Int) ∧ Hid (∃ zs, Own W1.heap.size ws v (4 + 2 * k) zs ∧ zs.take (4 + 2 * k) = b16s (ns.take (2 + k))) ∧ Hid (Below w.heap.size w ws ∧ ws.heap[w.heap.size + 1]? = some (.cells #[.int .i64 c0, .int .i64 c1, .int .i64 c2, .int .i64 c3] 27) ∧ W1.heap.size ≤ ws.heap.size)) (fun _ y _ => 4 - (intOf y).toNat)
        case atStart => exact ⟨0, by omega, rfl, ⟨_, H0.out.1, HNS.out.1.symm⟩, H0.out.2⟩
        case round =>
          obtain ⟨k, hk, rfl, HO, HB⟩ := hrel
          by_cases hlt : k < 4
          · have hlt' : (k : Int) < 4 := by omega
            rcases Nat.lt_or_ge k 1 with hk' | hk'
            · obtain rfl : k = 0 := by omega
              have cc : wr.cell? ⟨w.heap.size + 1, 0, none⟩ = some (.int .i64 c0) := cell_of_block HB.out.2.1 rfl
              have pp := block_lt HB.out.2.1
              obtain ⟨zs, hO, hT⟩ := HO.out
              have hnb : Below wr.heap.size wr (wr.alloc (.cells #[.int .u8 (c0 / 256), .int .u8 (c0 % 256)] 5)) := (Below.refl _ _).alloc (Nat.le_refl _) _
              have HO2 : Hid (Own W1.heap.size (wr.alloc (.cells #[.int .u8 (c0 / 256), .int .u8 (c0 % 256)] 5)) u9 4 zs) := hO.below hnb
              have HR2 : Hid (Rd (wr.alloc (.cells #[.int .u8 (c0 / 256), .int .u8 (c0 % 256)] 5)) (some ⟨wr.heap.size, 0, none⟩) [c0 / 256, c0 % 256]) := two_rd wr c0 ⟨by omega, by omega⟩
              have HT : Hid (zs.take 4 = b16s (ns.take 2)) := hT
              have HNB := Lib.hid hnb
              have HSZ : Hid (W1.heap.size ≤ (wr.alloc (.cells #[.int .u8 (c0 / 256), .int .u8 (c0 % 256)] 5)).heap.size) := Nat.le_trans HB.out.2.2 hnb.size
              clear hO hT HO hnb
              have d1 : (c0).tdiv 256 = c0 / 256 := Int.tdiv_eq_ediv_of_nonneg (by omega)
              have d2 : (c0).tmod 256 = c0 % 256 := Int.tmod_eq_emod_of_nonneg (by omega)
              have d3 : IntKind.u8.wrap (c0 / 256) = c0 / 256 := by rw [IntKind.wrap_u8']; omega
              have d4 : IntKind.u8.wrap (c0 % 256) = c0 % 256 := by rw [IntKind.wrap_u8']; omega
              have d5 : IntKind.i64.wrap (c0 / 256) = c0 / 256 := by rw [show c0 / 256 = (((c0 / 256).toNat : Nat) : Int) by omega]; exact wrap_i64_nat _ (by omega)
              go_wp2_with fail
              go_region_law (first
                | (refine step_append_blk rfl _ _ rfl W1.heap.size _ 4 zs rfl (by first | exact HO2.out | exact HO2.out.below (Below.refl _ _).drew) (some ⟨wr.heap.size, 0, none⟩) 2 2 [c0 / 256, c0 % 256] rfl (by first | exact HR2.out | exact HR2.out.below (Below.refl _ _).drew) 6 rfl rfl (by simp) (by omega) (by first | exact HSZ.out) ?_; intro v' w' zs' hO' hT' hG')
                | fail)
              all_goals
                go_wp2
                have hbb : Below w.heap.size w w' ∧ w'.heap[w.heap.size + 1]? = some (.cells #[.int .i64 c0, .int .i64 c1, .int .i64 c2, .int .i64 c3] 27) ∧ W1.heap.size ≤ w'.heap.size := by
                  have hq := HB.out.1.trans (HNB.out.mono HB.out.1.size)
                  have hp := HP.out
                  have hl : ∀ k, u9.ownBlock = some k → w.heap.size ≤ k := fun k hk => by have := HO2.out.lt k hk; omega
                  have hn : some (w.heap.size + 1) ≠ u9.ownBlock := fun h => by have := HO2.out.lt _ h.symm; omega
                  have h1 := (HNB.out.block _ pp).trans HB.out.2.1
                  first
                  | exact ⟨hq.grown hG'.out hq.size hl, (hG'.out.block _ (block_lt h1) hn).trans h1, Nat.le_trans HSZ.out hG'.out.size⟩
                  | exact ⟨hq.drew.grown hG'.out hq.size hl, (hG'.out.block _ (block_lt h1) hn).trans h1, Nat.le_trans HSZ.out hG'.out.size⟩
                have hrr : ∃ zs, Own W1.heap.size w' v' (4 + 2 * (0 + 1)) zs ∧ zs.take (4 + 2 * (0 + 1)) = b16s (ns.take (2 + (0 + 1))) := by
                  have hm := HK.out 0 c0 rfl
                  have e2 := b16s_take ns (0 + 2) c0 hm
                  refine ⟨zs', hO'.out, ?_⟩
                  have e3 : b16s (ns.take (2 + (0 + 1))) = b16s (ns.take (0 + 2)) ++ [c0 / 256, c0 % 256] := e2
                  rw [e3]
                  have e4 : zs.take 4 = b16s (ns.take (0 + 2)) := HT.out
                  rw [← e4]
                  exact hT'.out
                go_round
                case rel => first | exact ⟨0 + 1, by omega, by go_num, hrr, hbb⟩ | ((repeat apply Exists.intro); exact ⟨⟨0 + 1, by omega, by go_num, hrr, hbb⟩, rfl⟩)
                case measure => simp [intOf]
            rcases Nat.lt_or_ge k 2 with hk' | hk'
            · obtain rfl : k = 1 := by omega
              have cc : wr.cell? ⟨w.heap.size + 1, 1, none⟩ = some (.int .i64 c1) := cell_of_block HB.out.2.1 rfl
              have pp := block_lt HB.out.2.1
              obtain ⟨zs, hO, hT⟩ := HO.out
              have hnb : Below wr.heap.size wr (wr.alloc (.cells #[.int .u8 (c1 / 256), .int .u8 (c1 % 256)] 5)) := (Below.refl _ _).alloc (Nat.le_refl _) _
              have HO2 : Hid (Own W1.heap.size (wr.alloc (.cells #[.int .u8 (c1 / 256), .int .u8 (c1 % 256)] 5)) u9 6 zs) := hO.below hnb
              have HR2 : Hid (Rd (wr.alloc (.cells #[.int .u8 (c1 / 256), .int .u8 (c1 % 256)] 5)) (some ⟨wr.heap.size, 0, none⟩) [c1 / 256, c1 % 256]) := two_rd wr c1 ⟨by omega, by omega⟩
              have HT : Hid (zs.take 6 = b16s (ns.take 3)) := hT
              have HNB := Lib.hid hnb
              have HSZ : Hid (W1.heap.size ≤ (wr.alloc (.cells #[.int .u8 (c1 / 256), .int .u8 (c1 % 256)] 5)).heap.size) := Nat.le_trans HB.out.2.2 hnb.size
              clear hO hT HO hnb
              have d1 : (c1).tdiv 256 = c1 / 256 := Int.tdiv_eq_ediv_of_nonneg (by omega)
              have d2 : (c1).tmod 256 = c1 % 256 := Int.tmod_eq_emod_of_nonneg (by omega)
              have d3 : IntKind.u8.wrap (c1 / 256) = c1 / 256 := by rw [IntKind.wrap_u8']; omega
              have d4 : IntKind.u8.wrap (c1 % 256) = c1 % 256 := by rw [IntKind.wrap_u8']; omega
              have d5 : IntKind.i64.wrap (c1 / 256) = c1 / 256 := by rw [show c1 / 256 = (((c1 / 256).toNat : Nat) : Int) by omega]; exact wrap_i64_nat _ (by omega)
              go_wp2_with fail
              go_region_law (first
                | (refine step_append_blk rfl _ _ rfl W1.heap.size _ 6 zs rfl (by first | exact HO2.out | exact HO2.out.below (Below.refl _ _).drew) (some ⟨wr.heap.size, 0, none⟩) 2 2 [c1 / 256, c1 % 256] rfl (by first | exact HR2.out | exact HR2.out.below (Below.refl _ _).drew) 8 rfl rfl (by simp) (by omega) (by first | exact HSZ.out) ?_; intro v' w' zs' hO' hT' hG')
                | fail)
              all_goals
                go_wp2
                have hbb : Below w.heap.size w w' ∧ w'.heap[w.heap.size + 1]? = some (.cells #[.int .i64 c0, .int .i64 c1, .int .i64 c2, .int .i64 c3] 27) ∧ W1.heap.size ≤ w'.heap.size := by
                  have hq := HB.out.1.trans (HNB.out.mono HB.out.1.size)
                  have hp := HP.out
                  have hl : ∀ k, u9.ownBlock = some k → w.heap.size ≤ k := fun k hk => by have := HO2.out.lt k hk; omega
                  have hn : some (w.heap.size + 1) ≠ u9.ownBlock := fun h => by have := HO2.out.lt _ h.symm; omega
                  have h1 := (HNB.out.block _ pp).trans HB.out.2.1
                  first
                  | exact ⟨hq.grown hG'.out hq.size hl, (hG'.out.block _ (block_lt h1) hn).trans h1, Nat.le_trans HSZ.out hG'.out.size⟩
                  | exact ⟨hq.drew.grown hG'.out hq.size hl, (hG'.out.block _ (block_lt h1) hn).trans h1, Nat.le_trans HSZ.out hG'.out.size⟩
                have hrr : ∃ zs, Own W1.heap.size w' v' (4 + 2 * (1 + 1)) zs ∧ zs.take (4 + 2 * (1 + 1)) = b16s (ns.take (2 + (1 + 1))) := by
                  have hm := HK.out 1 c1 rfl
                  have e2 := b16s_take ns (1 + 2) c1 hm
                  refine ⟨zs', hO'.out, ?_⟩
                  have e3 : b16s (ns.take (2 + (1 + 1))) = b16s (ns.take (1 + 2)) ++ [c1 / 256, c1 % 256] := e2
                  rw [e3]
                  have e4 : zs.take 6 = b16s (ns.take (1 + 2)) := HT.out
                  rw [← e4]
                  exact hT'.out
                go_round
                case rel => first | exact ⟨1 + 1, by omega, by go_num, hrr, hbb⟩ | ((repeat apply Exists.intro); exact ⟨⟨1 + 1, by omega, by go_num, hrr, hbb⟩, rfl⟩)
                case measure => simp [intOf]
            rcases Nat.lt_or_ge k 3 with hk' | hk'
            · obtain rfl : k = 2 := by omega
              have cc : wr.cell? ⟨w.heap.size + 1, 2, none⟩ = some (.int .i64 c2) := cell_of_block HB.out.2.1 rfl
              have pp := block_lt HB.out.2.1
              obtain ⟨zs, hO, hT⟩ := HO.out
              have hnb : Below wr.heap.size wr (wr.alloc (.cells #[.int .u8 (c2 / 256), .int .u8 (c2 % 256)] 5)) := (Below.refl _ _).alloc (Nat.le_refl _) _
              have HO2 : Hid (Own W1.heap.size (wr.alloc (.cells #[.int .u8 (c2 / 256), .int .u8 (c2 % 256)] 5)) u9 8 zs) := hO.below hnb
              have HR2 : Hid (Rd (wr.alloc (.cells #[.int .u8 (c2 / 256), .int .u8 (c2 % 256)] 5)) (some ⟨wr.heap.size, 0, none⟩) [c2 / 256, c2 % 256]) := two_rd wr c2 ⟨by omega, by omega⟩
              have HT : Hid (zs.take 8 = b16s (ns.take 4)) := hT
              have HNB := Lib.hid hnb
              have HSZ : Hid (W1.heap.size ≤ (wr.alloc (.cells #[.int .u8 (c2 / 256), .int .u8 (c2 % 256)] 5)).heap.size) := Nat.le_trans HB.out.2.2 hnb.size
              clear hO hT HO hnb
              have d1 : (c2).tdiv 256 = c2 / 256 := Int.tdiv_eq_ediv_of_nonneg (by omega)
              have d2 : (c2).tmod 256 = c2 % 256 := Int.tmod_eq_emod_of_nonneg (by omega)
              have d3 : IntKind.u8.wrap (c2 / 256) = c2 / 256 := by rw [IntKind.wrap_u8']; omega
              have d4 : IntKind.u8.wrap (c2 % 256) = c2 % 256 := by rw [IntKind.wrap_u8']; omega
              have d5 : IntKind.i64.wrap (c2 / 256) = c2 / 256 := by rw [show c2 / 256 = (((c2 / 256).toNat : Nat) : Int) by omega]; exact wrap_i64_nat _ (by omega)
              go_wp2_with fail
              go_region_law (first
                | (refine step_append_blk rfl _ _ rfl W1.heap.size _ 8 zs rfl (by first | exact HO2.out | exact HO2.out.below (Below.refl _ _).drew) (some ⟨wr.heap.size, 0, none⟩) 2 2 [c2 / 256, c2 % 256] rfl (by first | exact HR2.out | exact HR2.out.below (Below.refl _ _).drew) 10 rfl rfl (by simp) (by omega) (by first | exact HSZ.out) ?_; intro v' w' zs' hO' hT' hG')
                | fail)
              all_goals
                go_wp2
                have hbb : Below w.heap.size w w' ∧ w'.heap[w.heap.size + 1]? = some (.cells #[.int .i64 c0, .int .i64 c1, .int .i64 c2, .int .i64 c3] 27) ∧ W1.heap.size ≤ w'.heap.size := by
                  have hq := HB.out.1.trans (HNB.out.mono HB.out.1.size)
                  have hp := HP.out
                  have hl : ∀ k, u9.ownBlock = some k → w.heap.size ≤ k := fun k hk => by have := HO2.out.lt k hk; omega
                  have hn : some (w.heap.size + 1) ≠ u9.ownBlock := fun h => by have := HO2.out.lt _ h.symm; omega
                  have h1 := (HNB.out.block _ pp).trans HB.out.2.1
                  first
                  | exact ⟨hq.grown hG'.out hq.size hl, (hG'.out.block _ (block_lt h1) hn).trans h1, Nat.le_trans HSZ.out hG'.out.size⟩
                  | exact ⟨hq.drew.grown hG'.out hq.size hl, (hG'.out.block _ (block_lt h1) hn).trans h1, Nat.le_trans HSZ.out hG'.out.size⟩
                have hrr : ∃ zs, Own W1.heap.size w' v' (4 + 2 * (2 + 1)) zs ∧ zs.take (4 + 2 * (2 + 1)) = b16s (ns.take (2 + (2 + 1))) := by
                  have hm := HK.out 2 c2 rfl
                  have e2 := b16s_take ns (2 + 2) c2 hm
                  refine ⟨zs', hO'.out, ?_⟩
                  have e3 : b16s (ns.take (2 + (2 + 1))) = b16s (ns.take (2 + 2)) ++ [c2 / 256, c2 % 256] := e2
                  rw [e3]
                  have e4 : zs.take 8 = b16s (ns.take (2 + 2)) := HT.out
                  rw [← e4]
                  exact hT'.out
                go_round
                case rel => first | exact ⟨2 + 1, by omega, by go_num, hrr, hbb⟩ | ((repeat apply Exists.intro); exact ⟨⟨2 + 1, by omega, by go_num, hrr, hbb⟩, rfl⟩)
                case measure => simp [intOf]
            rcases Nat.lt_or_ge k 4 with hk' | hk'
            · obtain rfl : k = 3 := by omega
              have cc : wr.cell? ⟨w.heap.size + 1, 3, none⟩ = some (.int .i64 c3) := cell_of_block HB.out.2.1 rfl
              have pp := block_lt HB.out.2.1
              obtain ⟨zs, hO, hT⟩ := HO.out
              have hnb : Below wr.heap.size wr (wr.alloc (.cells #[.int .u8 (c3 / 256), .int .u8 (c3 % 256)] 5)) := (Below.refl _ _).alloc (Nat.le_refl _) _
              have HO2 : Hid (Own W1.heap.size (wr.alloc (.cells #[.int .u8 (c3 / 256), .int .u8 (c3 % 256)] 5)) u9 10 zs) := hO.below hnb
              have HR2 : Hid (Rd (wr.alloc (.cells #[.int .u8 (c3 / 256), .int .u8 (c3 % 256)] 5)) (some ⟨wr.heap.size, 0, none⟩) [c3 / 256, c3 % 256]) := two_rd wr c3 ⟨by omega, by omega⟩
              have HT : Hid (zs.take 10 = b16s (ns.take 5)) := hT
              have HNB := Lib.hid hnb
              have HSZ : Hid (W1.heap.size ≤ (wr.alloc (.cells #[.int .u8 (c3 / 256), .int .u8 (c3 % 256)] 5)).heap.size) := Nat.le_trans HB.out.2.2 hnb.size
              clear hO hT HO hnb
              have d1 : (c3).tdiv 256 = c3 / 256 := Int.tdiv_eq_ediv_of_nonneg (by omega)
              have d2 : (c3).tmod 256 = c3 % 256 := Int.tmod_eq_emod_of_nonneg (by omega)
              have d3 : IntKind.u8.wrap (c3 / 256) = c3 / 256 := by rw [IntKind.wrap_u8']; omega
              have d4 : IntKind.u8.wrap (c3 % 256) = c3 % 256 := by rw [IntKind.wrap_u8']; omega
              have d5 : IntKind.i64.wrap (c3 / 256) = c3 / 256 := by rw [show c3 / 256 = (((c3 / 256).toNat : Nat) : Int) by omega]; exact wrap_i64_nat _ (by omega)
              go_wp2_with fail
              go_region_law (first
                | (refine step_append_blk rfl _ _ rfl W1.heap.size _ 10 zs rfl (by first | exact HO2.out | exact HO2.out.below (Below.refl _ _).drew) (some ⟨wr.heap.size, 0, none⟩) 2 2 [c3 / 256, c3 % 256] rfl (by first | exact HR2.out | exact HR2.out.below (Below.refl _ _).drew) 12 rfl rfl (by simp) (by omega) (by first | exact HSZ.out) ?_; intro v' w' zs' hO' hT' hG')
                | fail)
              all_goals
                go_wp2
                have hbb : Below w.heap.size w w' ∧ w'.heap[w.heap.size + 1]? = some (.cells #[.int .i64 c0, .int .i64 c1, .int .i64 c2, .int .i64 c3] 27) ∧ W1.heap.size ≤ w'.heap.size := by
                  have hq := HB.out.1.trans (HNB.out.mono HB.out.1.size)
                  have hp := HP.out
                  have hl : ∀ k, u9.ownBlock = some k → w.heap.size ≤ k := fun k hk => by have := HO2.out.lt k hk; omega
                  have hn : some (w.heap.size + 1) ≠ u9.ownBlock := fun h => by have := HO2.out.lt _ h.symm; omega
                  have h1 := (HNB.out.block _ pp).trans HB.out.2.1
                  first
                  | exact ⟨hq.grown hG'.out hq.size hl, (hG'.out.block _ (block_lt h1) hn).trans h1, Nat.le_trans HSZ.out hG'.out.size⟩
                  | exact ⟨hq.drew.grown hG'.out hq.size hl, (hG'.out.block _ (block_lt h1) hn).trans h1, Nat.le_trans HSZ.out hG'.out.size⟩
                have hrr : ∃ zs, Own W1.heap.size w' v' (4 + 2 * (3 + 1)) zs ∧ zs.take (4 + 2 * (3 + 1)) = b16s (ns.take (2 + (3 + 1))) := by
                  have hm := HK.out 3 c3 rfl
                  have e2 := b16s_take ns (3 + 2) c3 hm
                  refine ⟨zs', hO'.out, ?_⟩
                  have e3 : b16s (ns.take (2 + (3 + 1))) = b16s (ns.take (3 + 2)) ++ [c3 / 256, c3 % 256] := e2
                  rw [e3]
                  have e4 : zs.take 10 = b16s (ns.take (3 + 2)) := HT.out
                  rw [← e4]
                  exact hT'.out
                go_round
                case rel => first | exact ⟨3 + 1, by omega, by go_num, hrr, hbb⟩ | ((repeat apply Exists.intro); exact ⟨⟨3 + 1, by omega, by go_num, hrr, hbb⟩, rfl⟩)
                case measure => simp [intOf]
            · omega
          · obtain rfl : k = 4 := by omega
            obtain ⟨zs, hO, hT⟩ := HO.out
            have hOw : Own w.heap.size wr u9 12 zs := by
              rcases hO with h | ⟨g, e, hg, h⟩
              · exact .inl h
              · exact .inr ⟨g, e, by have := HP.out; omega, h⟩
            have HR : Hid (∃ zs, Own w.heap.size wr u9 12 zs ∧ zs.take 12 = b16s ns) := ⟨zs, hOw, by rw [show (12 : Nat) = 4 + 2 * 4 from rfl, hT, List.take_of_length_le (by rw [HLN.out]; omega)]⟩
            clear hO hOw hT HO
            go_wp2
            go_ret2
            obtain ⟨zs, q1, q2⟩ := HR.out
            show RbPost w _ _ _
            rw [HE.out]
            exact ⟨fun _ => ⟨_, zs, rfl, q1, q2⟩, fun h => absurd HNS.out.2 h, HB.out.1⟩
  · exact absurd hkk hk
end Go.Proofs.Ytmlccnpondemiaa
