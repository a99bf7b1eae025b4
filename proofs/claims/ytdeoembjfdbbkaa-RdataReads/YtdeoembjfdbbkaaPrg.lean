/- Texts laid together: Gd Ge Nxl Nxm Nxr Hj Hk. -/
import Derived.Test.YtdeoembjfdbbkaaPrf
/- The document's own answer: what data bytes may be. -/
namespace Go.Proofs.Ytdeoembjfdbbkaa
open Go.ChangeShapes Go.WideShapes Go.ChangeAt Go.RowKit
set_option linter.unusedVariables false
set_option linter.unusedSimpArgs false


def GPost (o : Option Dat) (w : World) (e : Ending) (w' : World) : Prop :=
  match o with
  | none => ∃ v, e = .returned (.tuple #[v, .bool false]) ∧ Below w.heap.size w w'
  | some d => ∃ x : DA, e = .returned (.tuple #[.agg #[.slice x.p1.a x.p1.n x.p1.c, .slice x.p2.a x.p2.n x.p2.c, .slice x.p3.a x.p3.n x.p3.c, .slice x.p4.a x.p4.n x.p4.c], .bool true]) ∧ DRd w' x d ∧ Below w.heap.size w w'
/-- No data. -/
abbrev nilDA : DA := ⟨⟨none, 0, 0⟩, ⟨none, 0, 0⟩, ⟨none, 0, 0⟩, ⟨none, 0, 0⟩⟩
theorem SBox.of_block {w w' : World} {b : Nat} {s : Shp} (h : SBox w b s) (hs : w.heap.size ≤ w'.heap.size) (hb : w'.heap[b]? = w.heap[b]?) : SBox w' b s :=
  ⟨(World.cell?_of_block (a := ⟨b, 0, none⟩) hb).trans h.1, (World.cell?_of_block (a := ⟨b, 1, none⟩) hb).trans h.2.1, (World.cell?_of_block (a := ⟨b, 2, none⟩) hb).trans h.2.2.1, (World.cell?_of_block (a := ⟨b, 3, none⟩) hb).trans h.2.2.2.1, (World.cell?_of_block (a := ⟨b, 4, none⟩) hb).trans h.2.2.2.2.1, Nat.lt_of_lt_of_le h.2.2.2.2.2 hs⟩
theorem DBlk.four {w : World} {R : Nat} {y : DA} (h : DBlk w R y) (x : DA) : DBlk (((((w.setCell ⟨R, 0, none⟩ (.slice x.p1.a x.p1.n x.p1.c)).setCell ⟨R, 1, none⟩ (.slice x.p2.a x.p2.n x.p2.c)).setCell ⟨R, 2, none⟩ (.slice x.p3.a x.p3.n x.p3.c)).setCell ⟨R, 3, none⟩ (.slice x.p4.a x.p4.n x.p4.c)).drew) R x :=
  (heap_set (heap_set (heap_set (heap_set h 0 _) 1 _) 2 _) 3 _).trans (by simp)
theorem nil_nrd (w : World) : NRd w ⟨none, 0, 0⟩ [] := ⟨.inl rfl, rfl, ⟨Nat.le_refl _, Nat.zero_le _⟩, fun _ => rfl⟩
theorem nil_urd (w : World) : URd w ⟨none, 0, 0⟩ [] := ⟨.inl rfl, rfl, ⟨Nat.le_refl _, Nat.zero_le _⟩, fun _ => rfl, by simp⟩
theorem nil_trd (w : World) : TRd w ⟨none, 0, 0⟩ [] := ⟨.inl rfl, rfl, ⟨Nat.le_refl _, Nat.zero_le _⟩, fun _ => rfl, by simp⟩
theorem nil_brd (w : World) : BRd w ⟨none, 0, 0⟩ [] := ⟨⟨.inl rfl, by simp⟩, rfl, ⟨Nat.le_refl _, Nat.zero_le _⟩, fun _ => rfl⟩
/-- The boxes that a guess begins with. -/
structure GB (S R g D : Nat) (s : Shp) (w Wb : World) : Prop where
  sb : SBox Wb S s
  rb : DBlk Wb R nilDA
  ne : S ≠ g ∧ S ≠ D ∧ R ≠ g ∧ R ≠ D ∧ S ≠ R
  bel : Below w.heap.size w Wb
  low : w.heap.size ≤ S ∧ w.heap.size ≤ R ∧ w.heap.size ≤ g ∧ w.heap.size ≤ D
theorem GB.sbox {S R g D : Nat} {s : Shp} {w Wb W : World} (h : GB S R g D s w Wb) (k : Kp g D Wb W) : SBox W S s := h.sb.of_block k.size (k.block S h.sb.2.2.2.2.2 h.ne.1 h.ne.2.1)
theorem GB.rblk {S R g D : Nat} {s : Shp} {w Wb W : World} (h : GB S R g D s w Wb) (k : Kp g D Wb W) : DBlk W R nilDA := h.rb.same (k.block R h.rb.lt h.ne.2.2.1 h.ne.2.2.2.1)
theorem GB.below {S R g D : Nat} {s : Shp} {w Wb W : World} (h : GB S R g D s w Wb) (k : Kp g D Wb W) : Below w.heap.size w W := k.below h.bel h.bel.size h.low.2.2.1 h.low.2.2.2
/-- What is read stays, where the result's box is written. -/
theorem GB.store {S R g D : Nat} {s : Shp} {w Wb W : World} (h : GB S R g D s w Wb) (k : Kp g D Wb W) (v0 v1 v2 v3 : Value) : Below w.heap.size w ((((W.setCell ⟨R, 0, none⟩ v0).setCell ⟨R, 1, none⟩ v1).setCell ⟨R, 2, none⟩ v2).setCell ⟨R, 3, none⟩ v3) :=
  ((((h.below k).setCell (p := ⟨R, 0, none⟩) h.low.2.1 v0).setCell (p := ⟨R, 1, none⟩) h.low.2.1 v1).setCell (p := ⟨R, 2, none⟩) h.low.2.1 v2).setCell (p := ⟨R, 3, none⟩) h.low.2.1 v3
theorem guess_new (s : Shp) (a : Option Addr) (len cap : Nat) (zs : List Int) (w : World) (hr : Rd w a zs) (hl : zs.length = len) (hc : len ≤ cap ∧ cap ≤ 9223372036854775807) (hb : len ≤ 1000000000) (hnil : a = none → cap = 0) :
    GB w.heap.size (w.heap.size + 1) (w.heap.size + 1 + 1 + 1) (w.heap.size + 1 + 1) s w ((((w.alloc (.cells #[.int .i64 s.nn, .int .i64 s.nu, .int .i64 s.nt, .int .i64 s.nr, .int .i64 s.wd] 67)).alloc (.cells #[.slice none 0 0, .slice none 0 0, .slice none 0 0, .slice none 0 0] 29)).alloc (.cells #[.slice none 0 0, .slice none 0 0, .slice none 0 0, .slice none 0 0] 29)).alloc (.cells #[.slice a len cap, .int .i64 0, .bool false] 99)) ∧
    GRd (w.heap.size + 1 + 1 + 1) (w.heap.size + 1 + 1) a len cap zs (some 0) nilDA ((((w.alloc (.cells #[.int .i64 s.nn, .int .i64 s.nu, .int .i64 s.nt, .int .i64 s.nr, .int .i64 s.wd] 67)).alloc (.cells #[.slice none 0 0, .slice none 0 0, .slice none 0 0, .slice none 0 0] 29)).alloc (.cells #[.slice none 0 0, .slice none 0 0, .slice none 0 0, .slice none 0 0] 29)).alloc (.cells #[.slice a len cap, .int .i64 0, .bool false] 99)) ((((w.alloc (.cells #[.int .i64 s.nn, .int .i64 s.nu, .int .i64 s.nt, .int .i64 s.nr, .int .i64 s.wd] 67)).alloc (.cells #[.slice none 0 0, .slice none 0 0, .slice none 0 0, .slice none 0 0] 29)).alloc (.cells #[.slice none 0 0, .slice none 0 0, .slice none 0 0, .slice none 0 0] 29)).alloc (.cells #[.slice a len cap, .int .i64 0, .bool false] 99)) := by
  have b1 : Below w.heap.size w (w.alloc (.cells #[.int .i64 s.nn, .int .i64 s.nu, .int .i64 s.nt, .int .i64 s.nr, .int .i64 s.wd] 67)) := (Below.refl _ _).alloc (Nat.le_refl _) _
  have s1 := SBox.new w s
  obtain ⟨W1, hW1⟩ : ∃ W, W = w.alloc (.cells #[.int .i64 s.nn, .int .i64 s.nu, .int .i64 s.nt, .int .i64 s.nr, .int .i64 s.wd] 67) := ⟨_, rfl⟩
  have z1 : W1.heap.size = w.heap.size + 1 := by rw [hW1]; simp
  rw [← hW1] at b1 s1 ⊢
  have n2 : (W1.alloc (.cells #[.slice none 0 0, .slice none 0 0, .slice none 0 0, .slice none 0 0] 29)).heap[W1.heap.size]? = _ := heap_alloc_new W1 _
  have b2 : Below W1.heap.size W1 (W1.alloc (.cells #[.slice none 0 0, .slice none 0 0, .slice none 0 0, .slice none 0 0] 29)) := (Below.refl _ _).alloc (Nat.le_refl _) _
  obtain ⟨W2, hW2⟩ : ∃ W, W = W1.alloc (.cells #[.slice none 0 0, .slice none 0 0, .slice none 0 0, .slice none 0 0] 29) := ⟨_, rfl⟩
  have z2 : W2.heap.size = w.heap.size + 1 + 1 := by rw [hW2]; simp [z1]
  rw [← hW2] at n2 b2 ⊢
  have n3 : (W2.alloc (.cells #[.slice none 0 0, .slice none 0 0, .slice none 0 0, .slice none 0 0] 29)).heap[W2.heap.size]? = _ := heap_alloc_new W2 _
  have b3 : Below W2.heap.size W2 (W2.alloc (.cells #[.slice none 0 0, .slice none 0 0, .slice none 0 0, .slice none 0 0] 29)) := (Below.refl _ _).alloc (Nat.le_refl _) _
  obtain ⟨W3, hW3⟩ : ∃ W, W = W2.alloc (.cells #[.slice none 0 0, .slice none 0 0, .slice none 0 0, .slice none 0 0] 29) := ⟨_, rfl⟩
  have z3 : W3.heap.size = w.heap.size + 1 + 1 + 1 := by rw [hW3]; simp [z2]
  rw [← hW3] at n3 b3 ⊢
  have n4 : (W3.alloc (.cells #[.slice a len cap, .int .i64 0, .bool false] 99)).heap[W3.heap.size]? = _ := heap_alloc_new W3 _
  have b4 : Below W3.heap.size W3 (W3.alloc (.cells #[.slice a len cap, .int .i64 0, .bool false] 99)) := (Below.refl _ _).alloc (Nat.le_refl _) _
  obtain ⟨W4, hW4⟩ : ∃ W, W = W3.alloc (.cells #[.slice a len cap, .int .i64 0, .bool false] 99) := ⟨_, rfl⟩
  have z4 : W4.heap.size = w.heap.size + 1 + 1 + 1 + 1 := by rw [hW4]; simp [z3]
  rw [← hW4] at n4 b4 ⊢
  have c12 : Below W1.heap.size W1 W4 := (b2.trans (b3.mono (by omega))).trans (b4.mono (by omega))
  have c22 : Below W2.heap.size W2 W4 := b3.trans (b4.mono (by omega))
  have call : Below w.heap.size w W4 := b1.trans (c12.mono (by omega))
  rw [z1] at n2
  rw [z2] at n3
  rw [z3] at n4
  have m2 := (c22.block (w.heap.size + 1) (by omega)).trans n2
  have m3 := (b4.block (w.heap.size + 1 + 1) (by omega)).trans n3
  refine ⟨⟨s1.below c12, m2, by omega, call, by omega⟩, ⟨⟨n4, Nat.zero_le _⟩, m3, Kp.refl _ _ _, hr.below call, hl, hc, hb, hnil, ?_, by omega, by omega⟩⟩
  rcases hr.1 with h1 | ⟨b', o', e', h2, _⟩
  · exact .inl h1
  · right
    intro b o e
    rw [e] at e'
    cases e'
    omega
theorem tk_all (zs : List Int) (len : Nat) (hl : zs.length = len) : tk zs (some 0) (len : Int) = zs ∧ mv len (some 0) (len : Int) = some len := by
  constructor
  · simp only [tk]
    rw [if_pos ⟨by omega, by simp; omega⟩]
    simp [← hl]
  · simp only [mv]
    rw [if_pos ⟨by omega, by simp⟩]
    simp
theorem own_brd {B : Nat} {w : World} {s : Sl} {zs ys : List Int} (h : Own B w (.slice s.a s.n s.c) zs.length ys) (ht : ys.take zs.length = zs) : BRd w s zs := by
  obtain ⟨sa, sn, sc⟩ := s
  obtain ⟨ao, e, hoa⟩ := h.addr
  injection e with e1 e2 e3
  simp only at e1 e2 e3
  subst e1 e2 e3
  have hrd := hoa.rdTake zs.length
  rw [ht] at hrd
  refine ⟨hrd, rfl, ?_, ?_⟩
  · rcases h with ⟨_, h0, h1⟩ | ⟨g, _, _, _, h1, h2⟩
    · subst h1; simp [h0]
    · exact ⟨h1, by simp only [maxLen] at h2; exact h2⟩
  · intro hn
    rcases h with ⟨_, _, h1⟩ | ⟨g, e, _⟩
    · subst h1; rfl
    · simp only at hn e; rw [hn] at e; cases e
theorem uone (u : Nat) : Value.oneCell' (.int .u32 (u : Int)) = true := rfl
/-- Numbers of one's own. -/
def UOwn (B : Nat) (w : World) (s : Sl) (us : List Nat) : Prop := ∃ xs, OwnV B w 54 (.slice s.a s.n s.c) us.length xs ∧ xs.take us.length = uv us ∧ (∀ u ∈ us, u ≤ 4294967295) ∧ ∀ v ∈ xs, ∃ z : Int, v = .int .u32 z ∧ 0 ≤ z ∧ z ≤ 4294967295
/-- Bytes of one's own. -/
def BOwn (B : Nat) (w : World) (s : Sl) (zs : List Int) : Prop := ∃ ys, Own B w (.slice s.a s.n s.c) zs.length ys ∧ ys.take zs.length = zs
/-- Data of one's own. -/
def DOwn (B : Nat) (w : World) (x : DA) (d : Dat) : Prop := OwnN B w (.slice x.p1.a x.p1.n x.p1.c) d.ns ∧ UOwn B w x.p2 d.us ∧ Own1 B w x.p3 d.ts ∧ BOwn B w x.p4 d.raw
theorem UOwn.keep {B : Nat} {w w' : World} {s : Sl} {us : List Nat} (h : UOwn B w s us) (hb : ∀ j, B ≤ j → j < w.heap.size → w'.heap[j]? = w.heap[j]?) : UOwn B w' s us := by
  obtain ⟨xs, h1, h2⟩ := h
  exact ⟨xs, h1.keep (fun j e hj => hb j (h1.lt j e) hj), h2⟩
theorem own_keep2 {B : Nat} {w w' : World} {v : Value} {n : Nat} {zs : List Int} (h : Own B w v n zs) (hb : ∀ j, B ≤ j → j < w.heap.size → w'.heap[j]? = w.heap[j]?) : Own B w' v n zs := by
  rcases h with h | ⟨g, h1, h2, h3, h4⟩
  · exact .inl h
  · exact .inr ⟨g, h1, h2, h3.same (hb g h2 h3.lt), h4⟩
theorem BOwn.keep {B : Nat} {w w' : World} {s : Sl} {zs : List Int} (h : BOwn B w s zs) (hb : ∀ j, B ≤ j → j < w.heap.size → w'.heap[j]? = w.heap[j]?) : BOwn B w' s zs := by
  obtain ⟨ys, h1, h2⟩ := h
  exact ⟨ys, own_keep2 h1 hb, h2⟩
theorem DOwn.keep {B : Nat} {w w' : World} {x : DA} {d : Dat} (h : DOwn B w x d) (hb : ∀ j, B ≤ j → j < w.heap.size → w'.heap[j]? = w.heap[j]?) : DOwn B w' x d :=
  ⟨h.1.keep hb, h.2.1.keep hb, h.2.2.1.keep (fun j h1 h2 _ => hb j h1 h2), h.2.2.2.keep hb⟩
theorem UOwn.rd {B : Nat} {w : World} {s : Sl} {us : List Nat} (h : UOwn B w s us) : URd w s us := by
  obtain ⟨xs, h1, h2, h3⟩ := h
  obtain ⟨sa, sn, sc⟩ := s
  obtain ⟨ao, e, hnil⟩ := h1.shape
  have hle := h1.le
  injection e with e1 e2 e3
  simp only at e1 e2 e3
  subst e1 e2 e3
  have hrd := h1.rd us.length
  rw [h2] at hrd
  exact ⟨hrd, rfl, ⟨hle.1, by have := hle.2; simp only [maxLen] at this; exact this⟩, hnil, h3.1⟩
theorem BOwn.rd {B : Nat} {w : World} {s : Sl} {zs : List Int} (h : BOwn B w s zs) : BRd w s zs := by
  obtain ⟨ys, h1, h2⟩ := h
  exact own_brd h1 h2
theorem DOwn.rd {B : Nat} {w : World} {x : DA} {d : Dat} (h : DOwn B w x d) : DRd w x d := ⟨h.1.rd, h.2.1.rd, h.2.2.1.rd, h.2.2.2.rd⟩
theorem nil_uown (B : Nat) (w : World) : UOwn B w ⟨none, 0, 0⟩ [] := ⟨[], OwnV.nil B w 54, rfl, by simp, by simp⟩
theorem nil_own1 (B : Nat) (w : World) : Own1 B w ⟨none, 0, 0⟩ [] := ⟨[], OwnT.nil B w _, rfl⟩
theorem nil_bown (B : Nat) (w : World) : BOwn B w ⟨none, 0, 0⟩ [] := ⟨[], .inl ⟨rfl, rfl, rfl⟩, rfl⟩
/-- The answer's box written: data of one's own can be read there still. -/
theorem GB.final {S R g D : Nat} {s : Shp} {w Wb W : World} {x : DA} {d : Dat} (h : GB S R g D s w Wb) (k : Kp g D Wb W) (hd : DOwn Wb.heap.size W x d) :
    DBlk (((((W.setCell ⟨R, 0, none⟩ (.slice x.p1.a x.p1.n x.p1.c)).setCell ⟨R, 1, none⟩ (.slice x.p2.a x.p2.n x.p2.c)).setCell ⟨R, 2, none⟩ (.slice x.p3.a x.p3.n x.p3.c)).setCell ⟨R, 3, none⟩ (.slice x.p4.a x.p4.n x.p4.c)).drew) R x ∧
    Below w.heap.size w (((((W.setCell ⟨R, 0, none⟩ (.slice x.p1.a x.p1.n x.p1.c)).setCell ⟨R, 1, none⟩ (.slice x.p2.a x.p2.n x.p2.c)).setCell ⟨R, 2, none⟩ (.slice x.p3.a x.p3.n x.p3.c)).setCell ⟨R, 3, none⟩ (.slice x.p4.a x.p4.n x.p4.c)).drew) ∧
    DRd (((((W.setCell ⟨R, 0, none⟩ (.slice x.p1.a x.p1.n x.p1.c)).setCell ⟨R, 1, none⟩ (.slice x.p2.a x.p2.n x.p2.c)).setCell ⟨R, 2, none⟩ (.slice x.p3.a x.p3.n x.p3.c)).setCell ⟨R, 3, none⟩ (.slice x.p4.a x.p4.n x.p4.c)).drew) x d := by
  refine ⟨(h.rblk k).four x, (h.store k _ _ _ _).drew, (hd.keep fun j hj hs => ?_).rd⟩
  have hR := h.rb.lt
  have hj' : j ≠ R := by omega
  show ((((W.setCell ⟨R, 0, none⟩ _).setCell ⟨R, 1, none⟩ _).setCell ⟨R, 2, none⟩ _).setCell ⟨R, 3, none⟩ _).heap[j]? = _
  rw [Below.heap_setCell _ _ _ j hj', Below.heap_setCell _ _ _ j hj', Below.heap_setCell _ _ _ j hj', Below.heap_setCell _ _ _ j hj']
set_option maxRecDepth 100000 in
set_option maxHeartbeats 4000000 in
theorem guess_raw (t : Nat) (ht : t ≠ 6) (nr : Int) (hnr : nr ≠ 0) (a : Option Addr) (len cap : Nat) (zs : List Int) (w : World) (hr : Rd w a zs) (hl : zs.length = len) (hc : len ≤ cap ∧ cap ≤ 9223372036854775807) (hb : len ≤ 1000000000) (hnil : a = none → cap = 0) :
    Calls Try.prog 53 #[.int .u16 t, .agg #[.int .i64 0, .int .i64 0, .int .i64 0, .int .i64 nr, .int .i64 0], .slice a len cap] w (GPost (some ⟨[], [], [], zs⟩) w) := by
  have q6 : ((t : Int) == 6) = false := by simp; omega
  have q6n : ((t : Int) != 6) = true := by simp; omega
  have HN : Hid (GB w.heap.size (w.heap.size + 1) (w.heap.size + 1 + 1 + 1) (w.heap.size + 1 + 1) ⟨0, 0, 0, nr, 0⟩ w ((((w.alloc (.cells #[.int .i64 0, .int .i64 0, .int .i64 0, .int .i64 nr, .int .i64 0] 67)).alloc (.cells #[.slice none 0 0, .slice none 0 0, .slice none 0 0, .slice none 0 0] 29)).alloc (.cells #[.slice none 0 0, .slice none 0 0, .slice none 0 0, .slice none 0 0] 29)).alloc (.cells #[.slice a len cap, .int .i64 0, .bool false] 99)) ∧ GRd (w.heap.size + 1 + 1 + 1) (w.heap.size + 1 + 1) a len cap zs (some 0) nilDA ((((w.alloc (.cells #[.int .i64 0, .int .i64 0, .int .i64 0, .int .i64 nr, .int .i64 0] 67)).alloc (.cells #[.slice none 0 0, .slice none 0 0, .slice none 0 0, .slice none 0 0] 29)).alloc (.cells #[.slice none 0 0, .slice none 0 0, .slice none 0 0, .slice none 0 0] 29)).alloc (.cells #[.slice a len cap, .int .i64 0, .bool false] 99)) ((((w.alloc (.cells #[.int .i64 0, .int .i64 0, .int .i64 0, .int .i64 nr, .int .i64 0] 67)).alloc (.cells #[.slice none 0 0, .slice none 0 0, .slice none 0 0, .slice none 0 0] 29)).alloc (.cells #[.slice none 0 0, .slice none 0 0, .slice none 0 0, .slice none 0 0] 29)).alloc (.cells #[.slice a len cap, .int .i64 0, .bool false] 99))) := guess_new ⟨0, 0, 0, nr, 0⟩ a len cap zs w hr hl hc hb hnil
  have HL : Hid (zs.length = len) := hl
  have KT : Hid (∀ g V, MSt V g a len cap (some 0) → Rd V a zs → Calls Try.prog 79 #[.pointer (some ⟨g, 0, none⟩), .int .i64 (len : Int)] V fun e w' => ∃ v ys, e = .returned v ∧ Hid (Own V.heap.size w' v zs.length ys ∧ ys.take zs.length = zs ∧ MSt w' g a len cap (some len) ∧ V.grownBy w' (some g))) := by
    intro g V hM hR
    have := reftake_any g a len cap zs (some 0) (len : Int) V hM hR hl hc.1 (by omega) hnil trivial
    rw [(tk_all zs len hl).1, (tk_all zs len hl).2] at this
    exact this
  have qr : (nr != 0) = true := by simp; exact hnr
  clear hnr
  clear hr hl hc hnil ht
  go_enter Try.func53, Try.ntmps53
  go_upto_region 3 with fail
  generalize ((((w.alloc (.cells #[.int .i64 0, .int .i64 0, .int .i64 0, .int .i64 nr, .int .i64 0] 67)).alloc (.cells #[.slice none 0 0, .slice none 0 0, .slice none 0 0, .slice none 0 0] 29)).alloc (.cells #[.slice none 0 0, .slice none 0 0, .slice none 0 0, .slice none 0 0] 29)).alloc (.cells #[.slice a len cap, .int .i64 0, .bool false] 99)) = Wb at *
  obtain ⟨g, hg⟩ : ∃ g, w.heap.size + 1 + 1 + 1 = g := ⟨_, rfl⟩
  obtain ⟨D, hD⟩ : ∃ D, w.heap.size + 1 + 1 = D := ⟨_, rfl⟩
  obtain ⟨R, hR⟩ : ∃ R, w.heap.size + 1 = R := ⟨_, rfl⟩
  obtain ⟨S, hS⟩ : ∃ S, w.heap.size = S := ⟨_, rfl⟩
  rw [hg, hD, hR] at HN
  rw [hg, hD, hR]
  have HS : Hid (w.heap.size = S) := hS
  rw [hS] at HN ⊢
  clear hg hD hR hS
  have HF : Hid (∀ V, Kp g D Wb V → V.cell? ⟨S, 0, none⟩ = some (.int .i64 0) ∧ V.cell? ⟨S, 1, none⟩ = some (.int .i64 0) ∧ V.cell? ⟨S, 2, none⟩ = some (.int .i64 0) ∧ V.cell? ⟨S, 3, none⟩ = some (.int .i64 nr) ∧ V.cell? ⟨S, 4, none⟩ = some (.int .i64 0) ∧ S < V.heap.size) := fun V hV => HN.out.1.sbox hV
  have t0 := (HF.out _ (Kp.refl _ _ _)).1
  have t1 := (HF.out _ (Kp.refl _ _ _)).2.1
  have t2 := (HF.out _ (Kp.refl _ _ _)).2.2.1
  have t3 := (HF.out _ (Kp.refl _ _ _)).2.2.2.1
  have t4 := (HF.out _ (Kp.refl _ _ _)).2.2.2.2.1
  have m1 := HN.out.2.m.1.c1
  go_wp2_with fail
  go_loopw [11] (fun i wr => wr = Wb ∧ i = .int .i64 0) (fun _ _ => 0)
  case atStart => exact ⟨rfl, rfl⟩
  case round =>
    obtain ⟨hwr, rfl⟩ := hrel
    subst hwr
    go_wp2_with fail
    obtain ⟨wz, hz⟩ : ∃ z, z = wr := ⟨_, rfl⟩
    subst hz
    go_loopw [] (fun wr => wr = wz) (fun _ => 0)
    case atStart => rfl
    case round =>
      have hwr := hrel
      subst hwr
      have hwl : IntKind.i64.wrap (len : Int) = (len : Int) := by rw [IntKind.wrap_i64]; omega
      go_wp2_with fail
      refine (KT.out g wr HN.out.2.m HN.out.2.rd).mono ?_
      rintro e W5 ⟨v, ys, rfl, H5⟩
      obtain ⟨ao, hv, _⟩ := H5.out.1.addr
      subst hv
      have H6 : Hid (GRd g D a len cap zs (some len) nilDA wr W5) := HN.out.2.mv H5.out.2.2.2 H5.out.2.2.1
      have d3 := H6.out.d.box.2.2.2.1
      have df := H6.out.d.fz 3
      simp only at d3
      clear t0 t1 t2 t3 t4 m1
      go_upto_region 22 with fail
      obtain ⟨W7, hW7⟩ : ∃ V, V = W5.setCell ⟨D, 3, none⟩ (.slice ao zs.length ys.length) := ⟨_, rfl⟩
      have H7 : Hid (GRd g D a len cap zs (some len) ⟨⟨none, 0, 0⟩, ⟨none, 0, 0⟩, ⟨none, 0, 0⟩, ⟨ao, zs.length, ys.length⟩⟩ wr W7 ∧ DOwn wr.heap.size W7 ⟨⟨none, 0, 0⟩, ⟨none, 0, 0⟩, ⟨none, 0, 0⟩, ⟨ao, zs.length, ys.length⟩⟩ ⟨[], [], [], zs⟩) := by
        rw [hW7]
        refine ⟨H6.out.set 3 _ (H6.out.d.set3 ⟨ao, zs.length, ys.length⟩), OwnN.nil _ _, nil_uown _ _, nil_own1 _ _, ys, H5.out.1.keep fun j hj => Below.heap_setCell _ _ _ j (by have := H6.out.lt; show j ≠ D; omega), H5.out.2.1⟩
      rw [← hW7]
      clear d3 df hW7 H6 H5
      generalize zs.length = m4 at *
      generalize ys.length = l4 at *
      have e0 := H7.out.1.d.box.1
      have e1 := H7.out.1.d.box.2.1
      have e2 := H7.out.1.d.box.2.2.1
      have e3 := H7.out.1.d.box.2.2.2.1
      have eb : W7.cell? ⟨g, 2, none⟩ = some (.bool false) := H7.out.1.m.1.c2
      have r0 := (HN.out.1.rblk H7.out.1.k).box.1
      have r1 := (HN.out.1.rblk H7.out.1.k).box.2.1
      have r2 := (HN.out.1.rblk H7.out.1.k).box.2.2.1
      have r3 := (HN.out.1.rblk H7.out.1.k).box.2.2.2.1
      have z0 := (HN.out.1.rblk H7.out.1.k).fz 0
      have z1 := (HN.out.1.rblk H7.out.1.k).fz 1
      have z2 := (HN.out.1.rblk H7.out.1.k).fz 2
      have z3 := (HN.out.1.rblk H7.out.1.k).fz 3
      have nRg : ¬ R = g := HN.out.1.ne.2.2.1
      have nRD : ¬ R = D := HN.out.1.ne.2.2.2.1
      simp only at e0 e1 e2 e3 r0 r1 r2 r3
      go_region_held3 (fun V => V.cell? ⟨D, 0, none⟩ = some (.slice none 0 0) ∧ V.cell? ⟨D, 1, none⟩ = some (.slice none 0 0) ∧ V.cell? ⟨D, 2, none⟩ = some (.slice none 0 0) ∧ V.cell? ⟨D, 3, none⟩ = some (.slice ao m4 l4) ∧ V.cell? ⟨g, 2, none⟩ = some (.bool false)) (exact ⟨by go_keep, by go_keep, by go_keep, by go_keep, by go_keep⟩) (fail)
      all_goals
        go_wp2_with fail
        have H8 : Hid (DBlk (((((W7.setCell ⟨R, 0, none⟩ (.slice none 0 0)).setCell ⟨R, 1, none⟩ (.slice none 0 0)).setCell ⟨R, 2, none⟩ (.slice none 0 0)).setCell ⟨R, 3, none⟩ (.slice ao m4 l4)).drew) R ⟨⟨none, 0, 0⟩, ⟨none, 0, 0⟩, ⟨none, 0, 0⟩, ⟨ao, m4, l4⟩⟩ ∧ Below w.heap.size w (((((W7.setCell ⟨R, 0, none⟩ (.slice none 0 0)).setCell ⟨R, 1, none⟩ (.slice none 0 0)).setCell ⟨R, 2, none⟩ (.slice none 0 0)).setCell ⟨R, 3, none⟩ (.slice ao m4 l4)).drew) ∧ DRd (((((W7.setCell ⟨R, 0, none⟩ (.slice none 0 0)).setCell ⟨R, 1, none⟩ (.slice none 0 0)).setCell ⟨R, 2, none⟩ (.slice none 0 0)).setCell ⟨R, 3, none⟩ (.slice ao m4 l4)).drew) ⟨⟨none, 0, 0⟩, ⟨none, 0, 0⟩, ⟨none, 0, 0⟩, ⟨ao, m4, l4⟩⟩ ⟨[], [], [], zs⟩) := GB.final (x := ⟨⟨none, 0, 0⟩, ⟨none, 0, 0⟩, ⟨none, 0, 0⟩, ⟨ao, m4, l4⟩⟩) (d := ⟨[], [], [], zs⟩) HN.out.1 H7.out.1.k H7.out.2
        generalize (((((W7.setCell ⟨R, 0, none⟩ (.slice none 0 0)).setCell ⟨R, 1, none⟩ (.slice none 0 0)).setCell ⟨R, 2, none⟩ (.slice none 0 0)).setCell ⟨R, 3, none⟩ (.slice ao m4 l4)).drew) = W8 at *
        have k0 := H8.out.1.box.1
        have k1 := H8.out.1.box.2.1
        have k2 := H8.out.1.box.2.2.1
        have k3 := H8.out.1.box.2.2.2.1
        simp only at k0 k1 k2 k3
        refine bodyPost_ret (v := .tuple #[.agg #[.slice none 0 0, .slice none 0 0, .slice none 0 0, .slice ao m4 l4], .bool true]) (by simp [results, Try.results53, go_sem, k0, k1, k2, k3]) rfl ?_
        exact ⟨⟨⟨none, 0, 0⟩, ⟨none, 0, 0⟩, ⟨none, 0, 0⟩, ⟨ao, m4, l4⟩⟩, rfl, H8.out.2.2, H8.out.2.1⟩
end Go.Proofs.Ytdeoembjfdbbkaa
/- Numbers that a reader gives, one behind the other. -/
namespace Go.Proofs.Ytdeoembjfdbbkaa
open Go.ChangeShapes Go.WideShapes Go.ChangeAt Go.RowKit
set_option linter.unusedVariables false
set_option linter.unusedSimpArgs false


/-- Where a reader stands behind k numbers. -/
def adv (len p k wd : Nat) : Option Nat := if p + k * wd ≤ len then some (p + k * wd) else none
def nvl (zs : List Int) (len p wd k : Nat) : Nat := (val (tk zs (adv len p k wd) (wd : Int))).toNat
theorem adv_step (len p k wd : Nat) : mv len (adv len p k wd) (wd : Int) = adv len p (k + 1) wd := by
  unfold adv
  have e : p + (k + 1) * wd = p + k * wd + wd := by rw [Nat.add_mul]; omega
  by_cases h : p + k * wd ≤ len
  · rw [if_pos h]
    simp only [mv]
    rw [e]
    by_cases h2 : p + k * wd + wd ≤ len
    · rw [if_pos ⟨by omega, by omega⟩, if_pos h2]; simp
    · rw [if_neg (by omega), if_neg h2]
  · rw [if_neg h, if_neg (by omega)]; rfl
theorem tk_mem {zs : List Int} {st : Option Nat} {n : Int} : ∀ z ∈ tk zs st n, z ∈ zs := by
  intro z hz
  unfold tk at hz
  split at hz
  · split at hz
    · exact List.mem_of_mem_drop (List.mem_of_mem_take hz)
    · simp at hz
  · simp at hz
theorem nvl_bd (zs : List Int) (hb : ∀ z ∈ zs, 0 ≤ z ∧ z ≤ 255) (len p wd k : Nat) (hw : wd ≤ 4) : 0 ≤ val (tk zs (adv len p k wd) (wd : Int)) ∧ val (tk zs (adv len p k wd) (wd : Int)) ≤ 4294967295 := by
  have hl := tk_len zs (adv len p k wd) wd
  have hm : ∀ z ∈ tk zs (adv len p k wd) (wd : Int), 0 ≤ z ∧ z ≤ 255 := fun z hz => hb z (tk_mem z hz)
  generalize tk zs (adv len p k wd) (wd : Int) = l at *
  match l, hl, hm with
  | [], _, _ => simp [val]
  | [a], _, hm => simp [val]; have := hm a (by simp); omega
  | [a, b], _, hm => simp [val]; have := hm a (by simp); have := hm b (by simp); omega
  | [a, b, c], _, hm => simp [val]; have := hm a (by simp); have := hm b (by simp); have := hm c (by simp); omega
  | [a, b, c, d], _, hm => simp [val]; have := hm a (by simp); have := hm b (by simp); have := hm c (by simp); have := hm d (by simp); omega
  | a :: b :: c :: d :: e :: r, hl, _ => simp at hl; omega
theorem nvl_gNum (zs : List Int) (len p wd k : Nat) (hl : zs.length = len) (h : p + (k + 1) * wd ≤ len) : nvl zs len p wd k = gNum zs (p + k * wd) wd := by
  have e : p + (k + 1) * wd = p + k * wd + wd := by rw [Nat.add_mul]; omega
  unfold nvl adv gNum
  rw [if_pos (by omega)]
  simp only [tk]
  rw [if_pos ⟨by omega, by omega⟩]
  simp
theorem step_append_row {P : Program} {t e : TypeId} {z : Value} {bt : Nat} (T : ElemTy P t e z bt) {w : World} {ops : Array Oper} {o : Oper} {a : Act} {K : Act → World → Prop} {Q : Exit → Act → World → Prop} {E : Prop} (hgd : o.guard = none) (s x : Operand) (tx : TypeId)
    (ho : o.op = .call { callee := .builtin .append, args := #[s, x], argTypes := #[t, tx] }) (B : Nat) (v : Value) (n : Nat) (xs : List Value) (hs : a.eval s = v) (hown : OwnV B w e v n xs)
    (xv : Value) (m : Nat) (news : List Value) (hx : a.eval x = xv) (hsrc : Src P 1 tx xv m news w) (hb : (n + m) * bt ≤ 140737488355328) (h63 : n + m ≤ maxLen) (hB : B ≤ w.heap.size)
    (h : ∀ v' w' xs', Hid (OwnV B w' e v' (n + m) xs') → Hid (xs'.take (n + m) = xs.take n ++ news) → Hid (w.grownBy w' v.ownBlock) → Hid (∀ Q : Value → Prop, Q z → (∀ u ∈ xs, Q u) → (∀ u ∈ news, Q u) → ∀ u ∈ xs', Q u) → K (a.put o.dst v') w') :
    if Region.wanted o (yielded ops a.tmps) = true then Oper.wp P o a w K Q else E := by
  have hw : Region.wanted o (yielded ops a.tmps) = true := by simp [Region.wanted, hgd]
  rw [if_pos hw]
  obtain ⟨v', w', xs', hrun, h2, h3, h4, h5⟩ := run_append_row T w B tx o.type v n xs hown xv m news hsrc hb h63 hB
  unfold Oper.wp execOp
  simp only [ho, resolve, invoke, builtin, Sem.run_bind, Sem.run_pure, Result.andThen_ok, List.map_toArray, List.map_cons, List.map_nil, hs, hx, hrun]
  exact h v' w' xs' h2 h3 h4 h5.1
theorem tyU : ElemTy Try.prog 25 54 (.int .u32 0) 4 := ⟨Try.underlying25, by kernel_rfl, rfl⟩
theorem one_u (w : World) (u : Int) : RdV (w.alloc (.cells #[.int .u32 u] 54)) (some ⟨w.heap.size, 0, none⟩) [.int .u32 u] := by
  refine .inr ⟨w.heap.size, 0, rfl, by simp, fun i hi => ?_⟩
  have : i = 0 := by simp at hi; omega
  subst this
  unfold World.cell?
  rw [heap_alloc_new]
  rfl
theorem st_nums {w : World} {ops : Array Oper} {o : Oper} {a : Act} {K : Act → World → Prop} {Q : Exit → Act → World → Prop} {E : Prop} (hgd : o.guard = none) (s x : Operand)
    (ho : o.op = .call { callee := .builtin .append, args := #[s, x], argTypes := #[25, 25] }) (B : Nat) (s2 : Sl) (us : List Nat) (hs : a.eval s = .slice s2.a s2.n s2.c) (hown : UOwn B w s2 us)
    (ao : Addr) (hx : a.eval x = .slice (some ao) 1 1) (u : Nat) (hr : RdV w (some ao) [.int .u32 (u : Int)]) (hu : u ≤ 4294967295) (hn : us.length ≤ 1000) (hB : B ≤ w.heap.size)
    (h : ∀ (t' : Sl) w', Hid (UOwn B w' t' (us ++ [u])) → Hid (w.grownBy w' (Value.ownBlock (.slice s2.a s2.n s2.c)) ∧ ∀ j, (Value.ownBlock (.slice s2.a s2.n s2.c)) = some j → B ≤ j) → K (a.put o.dst (.slice t'.a t'.n t'.c)) w') :
    if Region.wanted o (yielded ops a.tmps) = true then Oper.wp Try.prog o a w K Q else E := by
  obtain ⟨xs, h1, h2, h3⟩ := hown
  refine step_append_row tyU hgd s x 25 ho B _ us.length xs hs h1 _ 1 [.int .u32 (u : Int)] hx (src_of Try.underlying25 hr rfl (by intro v hv; simp at hv; subst hv; rfl)) (by omega) (by simp only [maxLen]; omega) hB ?_
  intro v' w' xs' q1 q2 q3 q4
  obtain ⟨ao', rfl, _⟩ := q1.out.shape
  refine h ⟨ao', us.length + 1, xs'.length⟩ w' ⟨xs', by simpa using q1.out, ?_, ?_, q4.out _ ⟨0, rfl, by omega, by omega⟩ h3.2 (by intro v hv; simp at hv; subst hv; exact ⟨u, rfl, by omega, by omega⟩)⟩ ⟨q3.out, h1.lt⟩
  · have := q2.out
    rw [h2] at this
    simpa [uv] using this
  · intro v hv
    simp only [List.mem_append, List.mem_singleton] at hv
    rcases hv with hv | rfl
    · exact h3.1 v hv
    · exact hu
end Go.Proofs.Ytdeoembjfdbbkaa
/- What reading a name out of octets comes to. -/
namespace Go.Proofs.Ytdeoembjfdbbkaa
open Go.ChangeShapes Go.WideShapes Go.ChangeAt Go.RowKit
set_option linter.unusedVariables false
set_option linter.unusedSimpArgs false


/-- The labels that a reader reads from a place on, and its place behind them; none, if it is bad. -/
def pgo (l : List Int) (p : Nat) (out : List ByteArray) : List ByteArray × Option Nat :=
  if h : p < l.length then
    if l.getD p 0 ≤ 0 then (out, some (p + 1))
    else if (p : Int) + 1 + l.getD p 0 ≤ l.length then pgo l (p + 1 + (l.getD p 0).toNat) (out ++ [lb ((l.drop (p + 1)).take (l.getD p 0).toNat)])
    else (out ++ [lb []], none)
  else (out, none)
termination_by l.length - p
decreasing_by omega
/-- The same, when a length has been read already. -/
def aft (l : List Int) (st : Option Nat) (z : Int) (out : List ByteArray) : List ByteArray × Option Nat :=
  if z ≤ 0 then (out, st) else match st with
    | none => (out, none)
    | some p => if (p : Int) + z ≤ l.length then pgo l (p + z.toNat) (out ++ [lb ((l.drop p).take z.toNat)]) else (out ++ [lb []], none)
theorem take_one (l : List Int) (p : Nat) (h : p < l.length) : (l.drop p).take 1 = [l.getD p 0] := by
  rw [List.drop_eq_getElem_cons h, List.getD_eq_getElem?_getD, List.getElem?_eq_getElem h]
  rfl
theorem nb_in (l : List Int) (p : Nat) (h : p < l.length) : tk l (some p) 1 = [l.getD p 0] ∧ mv l.length (some p) 1 = some (p + 1) ∧ val (tk l (some p) 1) = l.getD p 0 := by
  have e : tk l (some p) 1 = [l.getD p 0] := by
    unfold tk
    simp only
    rw [if_pos ⟨by omega, by omega⟩]
    exact take_one l p h
  refine ⟨e, ?_, by rw [e]; simp [val]⟩
  unfold mv
  simp only
  rw [if_pos ⟨by omega, by omega⟩]
  rfl
theorem nb_out (l : List Int) (p : Nat) (h : ¬ p < l.length) : tk l (some p) 1 = [] ∧ mv l.length (some p) 1 = none ∧ val (tk l (some p) 1) = 0 := by
  have e : tk l (some p) 1 = [] := by
    unfold tk
    simp only
    rw [if_neg (by omega)]
  refine ⟨e, ?_, by rw [e]; rfl⟩
  unfold mv
  simp only
  rw [if_neg (by omega)]
theorem pgo_aft (l : List Int) (p : Nat) (out : List ByteArray) : pgo l p out = aft l (mv l.length (some p) 1) (val (tk l (some p) 1)) out := by
  by_cases h : p < l.length
  · obtain ⟨_, e2, e3⟩ := nb_in l p h
    rw [e2, e3, pgo, dif_pos h]
    unfold aft
    by_cases hz : l.getD p 0 ≤ 0
    · rw [if_pos hz, if_pos hz]
    · rw [if_neg hz, if_neg hz]
      simp only [Int.natCast_add, Int.natCast_one]
  · obtain ⟨_, e2, e3⟩ := nb_out l p h
    rw [e2, e3, pgo, dif_neg h]
    rfl
theorem aft_step (l : List Int) (p : Nat) (z : Int) (out : List ByteArray) (hz : 0 < z) : aft l (some p) z out = aft l (mv l.length (mv l.length (some p) z) 1) (val (tk l (mv l.length (some p) z) 1)) (out ++ [lb (tk l (some p) z)]) := by
  by_cases hf : (p : Int) + z ≤ l.length
  · have e1 : mv l.length (some p) z = some (p + z.toNat) := by unfold mv; simp only; rw [if_pos ⟨by omega, hf⟩]
    have e2 : tk l (some p) z = (l.drop p).take z.toNat := by unfold tk; simp only; rw [if_pos ⟨by omega, hf⟩]
    rw [e1, e2, ← pgo_aft]
    unfold aft
    rw [if_neg (by omega)]
    simp only
    rw [if_pos hf]
  · have e1 : mv l.length (some p) z = none := by unfold mv; simp only; rw [if_neg (by omega)]
    have e2 : tk l (some p) z = [] := by unfold tk; simp only; rw [if_neg (by omega)]
    rw [e1, e2]
    unfold aft
    rw [if_neg (by omega)]
    simp only
    rw [if_neg hf]
    rfl
/-- What a length that has been read says of the reader. -/
theorem nb_pos (l : List Int) (st : Option Nat) (h : 0 < val (tk l st 1)) : ∃ p, st = some p ∧ mv l.length st 1 = some (p + 1) ∧ p < l.length := by
  cases st with
  | none => simp [tk, val] at h
  | some p =>
    by_cases hp : p < l.length
    · exact ⟨p, rfl, (nb_in l p hp).2.1, hp⟩
    · rw [(nb_out l p hp).2.2] at h; omega
theorem nb_bd (l : List Int) (hb : ∀ z ∈ l, 0 ≤ z ∧ z ≤ 255) (st : Option Nat) : 0 ≤ val (tk l st 1) ∧ val (tk l st 1) ≤ 255 := by
  cases st with
  | none => simp [tk, val]
  | some p =>
    by_cases hp : p < l.length
    · rw [(nb_in l p hp).2.2]; exact getD_bd l hb p
    · rw [(nb_out l p hp).2.2]; omega
theorem pgo_pre (l : List Int) : ∀ (n p : Nat) (out : List ByteArray), l.length - p ≤ n → ∃ r, (pgo l p out).1 = out ++ r
  | n, p, out, hn => by
    rw [pgo]
    by_cases h : p < l.length
    · rw [dif_pos h]
      by_cases hz : l.getD p 0 ≤ 0
      · rw [if_pos hz]; exact ⟨[], by simp⟩
      · rw [if_neg hz]
        by_cases hf : (p : Int) + 1 + l.getD p 0 ≤ l.length
        · rw [if_pos hf]
          cases n with
          | zero => omega
          | succ n =>
            obtain ⟨r, hr⟩ := pgo_pre l n (p + 1 + (l.getD p 0).toNat) (out ++ [lb ((l.drop (p + 1)).take (l.getD p 0).toNat)]) (by omega)
            exact ⟨_ :: r, by rw [hr, List.append_assoc]; rfl⟩
        · rw [if_neg hf]; exact ⟨_, rfl⟩
    · rw [dif_neg h]; exact ⟨[], by simp⟩
theorem rgo_pre (l : List Int) : ∀ (n p : Nat) (out o : List ByteArray) (q : Nat), l.length - p ≤ n → rgo l p out = some (o, q) → ∃ r, o = out ++ r
  | n, p, out, o, q, hn, hr => by
    by_cases h : p < l.length ∧ l.getD p 0 ≤ 63
    · by_cases h0 : l.getD p 0 = 0
      · rw [rgo_zero l p out h h0] at hr
        cases hr
        exact ⟨[], by simp⟩
      · by_cases h1 : (l.length : Int) - ((p : Int) + 1) < l.getD p 0
        · rw [rgo_short l p out h h0 h1] at hr; cases hr
        · rw [rgo_step l p out h h0 h1] at hr
          cases n with
          | zero => omega
          | succ n =>
            obtain ⟨r, hr⟩ := rgo_pre l n _ _ o q (by omega) hr
            exact ⟨_ :: r, by rw [hr, List.append_assoc]; rfl⟩
    · rw [rgo_end l p out h] at hr; cases hr
/-- The bytes that the reader is given: from d on, at most 255. -/
def win (zs : List Int) (d : Nat) : List Int := (zs.drop d).take 255
theorem win_len (zs : List Int) (d : Nat) : (win zs d).length = min 255 (zs.length - d) := by simp [win]
theorem win_at (zs : List Int) (d p : Nat) (h : p < (win zs d).length) : (win zs d).getD p 0 = zs.getD (d + p) 0 := by
  rw [win_len] at h
  simp only [win, List.getD_eq_getElem?_getD]
  rw [List.getElem?_take, if_pos (by omega), List.getElem?_drop]
theorem win_cut (zs : List Int) (d p n : Nat) (h : p + n ≤ (win zs d).length) : ((win zs d).drop p).take n = (zs.drop (d + p)).take n := by
  rw [win_len] at h
  apply List.ext_getElem?
  intro i
  simp only [win, List.getElem?_take, List.getElem?_drop]
  by_cases hi : i < n
  · rw [if_pos hi, if_pos hi, if_pos (by omega), Nat.add_assoc]
  · rw [if_neg hi, if_neg hi]
theorem pgo_rgo (zs : List Int) (hb : ∀ z ∈ zs, 0 ≤ z ∧ z ≤ 255) (d : Nat) : ∀ (n p q : Nat) (out o : List ByteArray), (win zs d).length - p ≤ n → pgo (win zs d) p out = (o, some q) → nck o = 0 → rgo zs (d + p) out = some (o, d + q)
  | n, p, q, out, o, hn, hp, hk => by
    rw [pgo] at hp
    by_cases h : p < (win zs d).length
    · rw [dif_pos h, win_at zs d p h] at hp
      have hl := win_len zs d
      have hbd := getD_bd zs hb (d + p)
      by_cases hz : zs.getD (d + p) 0 ≤ 0
      · rw [if_pos hz] at hp
        cases hp
        rw [rgo_zero zs (d + p) out ⟨by omega, by omega⟩ (by omega)]
        rfl
      · rw [if_neg hz] at hp
        by_cases hf : (p : Int) + 1 + zs.getD (d + p) 0 ≤ (win zs d).length
        · rw [if_pos hf] at hp
          have hsz : (lb (((win zs d).drop (p + 1)).take (zs.getD (d + p) 0).toNat)).size = (zs.getD (d + p) 0).toNat := by
            rw [lb_size, List.length_take, List.length_drop]; omega
          have hmem : lb (((win zs d).drop (p + 1)).take (zs.getD (d + p) 0).toNat) ∈ o := by
            obtain ⟨r, hr⟩ := pgo_pre (win zs d) (win zs d).length (p + 1 + (zs.getD (d + p) 0).toNat) (out ++ [lb (((win zs d).drop (p + 1)).take (zs.getD (d + p) 0).toNat)]) (by omega)
            rw [hp] at hr
            simp only at hr
            rw [hr]
            simp
          have h63 := chk_ok ((nck_small hk).2 _ hmem)
          rw [hsz] at h63
          cases n with
          | zero => omega
          | succ n =>
            have := pgo_rgo zs hb d n _ q _ o (by omega) hp hk
            rw [rgo_step zs (d + p) out ⟨by omega, by omega⟩ (by omega) (by omega)]
            rw [win_cut zs d (p + 1) _ (by omega), show d + (p + 1 + (zs.getD (d + p) 0).toNat) = d + p + 1 + (zs.getD (d + p) 0).toNat by omega, show d + (p + 1) = d + p + 1 by omega] at this
            exact this
        · rw [if_neg hf] at hp
          cases hp
    · rw [dif_neg h] at hp
      cases hp
theorem rgo_pgo (zs : List Int) (hb : ∀ z ∈ zs, 0 ≤ z ∧ z ≤ 255) (d : Nat) : ∀ (n p Q : Nat) (out o : List ByteArray), zs.length - (d + p) ≤ n → rgo zs (d + p) out = some (o, Q) → nck o = 0 → nsz out = p + 1 → ∃ q, pgo (win zs d) p out = (o, some q) ∧ Q = d + q
  | n, p, Q, out, o, hn, hr, hk, hs => by
    have hl := win_len zs d
    have hbd := getD_bd zs hb (d + p)
    obtain ⟨r, hpre⟩ := rgo_pre zs zs.length (d + p) out o Q (by omega) hr
    have ho := (nck_small hk).1
    have hle : nsz out ≤ nsz o := by rw [hpre]; have := nsz_append out r; have := nsz_len r; omega
    by_cases h : d + p < zs.length ∧ zs.getD (d + p) 0 ≤ 63
    · have hw : p < (win zs d).length := by omega
      by_cases h0 : zs.getD (d + p) 0 = 0
      · rw [rgo_zero zs (d + p) out h h0] at hr
        cases hr
        refine ⟨p + 1, ?_, rfl⟩
        rw [pgo, dif_pos hw, win_at zs d p hw, if_pos (by omega)]
      · by_cases h1 : (zs.length : Int) - (((d + p : Nat) : Int) + 1) < zs.getD (d + p) 0
        · rw [rgo_short zs (d + p) out h h0 h1] at hr; cases hr
        · rw [rgo_step zs (d + p) out h h0 h1] at hr
          have hsz : (lb ((zs.drop (d + p + 1)).take (zs.getD (d + p) 0).toNat)).size = (zs.getD (d + p) 0).toNat := by
            rw [lb_size, List.length_take, List.length_drop]; omega
          have hs2 : nsz (out ++ [lb ((zs.drop (d + p + 1)).take (zs.getD (d + p) 0).toNat)]) = (p + 1 + (zs.getD (d + p) 0).toNat) + 1 := by
            rw [nsz_snoc, hsz, hs]
          obtain ⟨r2, hpre2⟩ := rgo_pre zs zs.length _ _ o Q (by omega) hr
          have hle2 : nsz (out ++ [lb ((zs.drop (d + p + 1)).take (zs.getD (d + p) 0).toNat)]) ≤ nsz o := by rw [hpre2]; have := nsz_append (out ++ [lb ((zs.drop (d + p + 1)).take (zs.getD (d + p) 0).toNat)]) r2; have := nsz_len r2; omega
          have hf : (p : Int) + 1 + zs.getD (d + p) 0 ≤ (win zs d).length := by omega
          cases n with
          | zero => omega
          | succ n =>
            rw [show d + p + 1 + (zs.getD (d + p) 0).toNat = d + (p + 1 + (zs.getD (d + p) 0).toNat) by omega] at hr
            obtain ⟨q, hq, hQ⟩ := rgo_pgo zs hb d n (p + 1 + (zs.getD (d + p) 0).toNat) Q _ o (by omega) hr hk hs2
            refine ⟨q, ?_, hQ⟩
            rw [pgo, dif_pos hw, win_at zs d p hw, if_neg (by omega), if_pos hf, win_cut zs d (p + 1) _ (by omega), show d + (p + 1) = d + p + 1 by omega]
            exact hq
    · rw [rgo_end zs (d + p) out h] at hr; cases hr
/-- What Read answers, by what its reader comes to. -/
theorem nread_pgo (zs : List Int) (hb : ∀ z ∈ zs, 0 ≤ z ∧ z ≤ 255) (d : Nat) (hd : d < zs.length) : nread zs (d : Int) = match pgo (win zs d) 0 [] with
    | (_, none) => ([], 0, 8)
    | (out, some q) => if nck out = 0 then (out, ((d + q : Nat) : Int), 0) else ([], 0, 8) := by
  unfold nread
  rw [if_neg (by omega), Int.toNat_natCast]
  cases hp : pgo (win zs d) 0 [] with
  | mk o st =>
    have back : ∀ (o2 : List ByteArray) (Q : Nat), rgo zs d [] = some (o2, Q) → nck o2 = 0 → ∃ q, pgo (win zs d) 0 [] = (o2, some q) ∧ Q = d + q := fun o2 Q h hk => rgo_pgo zs hb d zs.length 0 Q [] o2 (by omega) h hk (by simp [nsz])
    cases st with
    | none =>
      simp only
      cases hr : rgo zs d [] with
      | none => rfl
      | some x =>
        obtain ⟨o2, Q⟩ := x
        simp only
        by_cases hk : nck o2 = 0
        · obtain ⟨q, h1, _⟩ := back o2 Q hr hk
          rw [hp] at h1
          cases h1
        · rw [if_neg hk]
    | some q =>
      simp only
      by_cases hk : nck o = 0
      · have := pgo_rgo zs hb d (win zs d).length 0 q [] o (by omega) hp hk
        rw [Nat.add_zero] at this
        rw [this]
      · rw [if_neg hk]
        cases hr : rgo zs d [] with
        | none => rfl
        | some x =>
          obtain ⟨o2, Q⟩ := x
          simp only
          by_cases hk2 : nck o2 = 0
          · obtain ⟨q2, h1, _⟩ := back o2 Q hr hk2
            rw [hp] at h1
            cases h1
            exact absurd hk2 hk
          · rw [if_neg hk2]
end Go.Proofs.Ytdeoembjfdbbkaa
/- The program's names: read out of octets. -/
namespace Go.Proofs.Ytdeoembjfdbbkaa
open Go.ChangeShapes Go.WideShapes Go.ChangeAt Go.RowKit
set_option linter.unusedVariables false
set_option linter.unusedSimpArgs false


/-- What a new reader is: its block, its own copy of the octets; all of it new. -/
def NewPost (l : List Int) (w : World) (e : Ending) (w' : World) : Prop :=
  ∃ gr a' ca, e = .returned (.pointer (some ⟨gr, 0, none⟩)) ∧ Hid (w.heap.size ≤ gr ∧ RBlk w' gr (.slice a' l.length ca) 0 false ∧ Rd w' a' l ∧ l.length ≤ ca ∧ (a' = none → ca = 0) ∧ Off a' gr ∧ (∀ y o, a' = some ⟨y, o, none⟩ → w.heap.size ≤ y ∧ y < w'.heap.size) ∧ Below w.heap.size w w')
theorem grown_app {w1 wr w2 w' : World} {gr : Nat} {v : Value} {o : Obj} (h1 : w1.grownBy wr (some gr)) (h2 : wr.grownBy w2 (some gr)) (h3 : (w2.alloc o).grownBy w' v.ownBlock) (hv : ∀ g, v.ownBlock = some g → w1.heap.size ≤ g) : w1.grownBy w' (some gr) := by
  have hz : w2.heap.size ≤ (w2.alloc o).heap.size := by simp
  refine ⟨h3.os.trans (h2.os.trans h1.os), h3.tape.trans (h2.tape.trans h1.tape), h3.output.trans (h2.output.trans h1.output), Nat.le_trans h1.size (Nat.le_trans h2.size (Nat.le_trans hz h3.size)), fun k hk hne => ?_⟩
  have hk1 := Nat.lt_of_lt_of_le hk h1.size
  have hk2 := Nat.lt_of_lt_of_le hk1 h2.size
  refine (h3.block k (Nat.lt_of_lt_of_le hk2 hz) (fun e => by have := hv k e.symm; omega)).trans ?_
  exact (Below.heap_alloc w2 o k hk2).trans ((h2.block k hk1 hne).trans (h1.block k hk hne))
theorem same_app {w1 wr w2 w' : World} {gr : Nat} {v : Value} {o : Obj} (hg : gr < w1.heap.size) (h1 : w1.grownBy wr (some gr)) (h2 : wr.grownBy w2 (some gr)) (h3 : (w2.alloc o).grownBy w' v.ownBlock) (hv : ∀ g, v.ownBlock = some g → w1.heap.size ≤ g) : w'.heap[gr]? = w2.heap[gr]? := by
  have hz : w2.heap.size ≤ (w2.alloc o).heap.size := by simp
  have hk2 := Nat.lt_of_lt_of_le (Nat.lt_of_lt_of_le hg h1.size) h2.size
  exact (h3.block gr (Nat.lt_of_lt_of_le hk2 hz) (fun e => by have := hv gr e.symm; omega)).trans (Below.heap_alloc w2 o gr hk2)
theorem OwnT.keepOff {B : Nat} {w w' : World} {v : Value} {n : Nat} {ss : List ByteArray} {M gr : Nat} (h : OwnT B w v n ss M) (hg : w.grownBy w' (some gr)) (hB : gr < B) : OwnT B w' v n ss M :=
  ⟨h.1.keep fun g e hlt => hg.block g hlt (fun e' => by have := h.1.lt g e; have : g = gr := Option.some.inj e'; omega), h.2⟩
theorem grown_two {w1 wr w2 : World} {gr : Nat} (h1 : w1.grownBy wr (some gr)) (h2 : wr.grownBy w2 (some gr)) : w1.grownBy w2 (some gr) :=
  ⟨h2.os.trans h1.os, h2.tape.trans h1.tape, h2.output.trans h1.output, Nat.le_trans h1.size h2.size, fun k hk hne => (h2.block k (Nat.lt_of_lt_of_le hk h1.size) hne).trans (h1.block k hk hne)⟩
theorem below_off {B gr : Nat} {w w1 w2 : World} (h : Below B w w1) (hg : w1.grownBy w2 (some gr)) (hB : B ≤ gr) (h0 : B ≤ w1.heap.size) : Below B w w2 := h.grown hg h0 (fun k e => by cases e; exact hB)
set_option maxRecDepth 100000 in
set_option maxHeartbeats 2000000 in
theorem pread_in (b o len cap p0 M : Nat) (zs : List Int) (w : World) (hr : Rd w (some ⟨b, o, none⟩) zs) (hl : zs.length = len) (hm : len ≤ 140737488355328) (hc : len ≤ cap ∧ cap ≤ 9223372036854775807) (hp0 : p0 < len) (hM : M = min (len - p0) 255) :
    Calls Try.prog 90 #[.slice (some ⟨b, o, none⟩) len cap, .int .i64 p0] w (RPost (nread zs p0) w) := by
  have HX : Hid (nread zs (p0 : Int) = match pgo (win zs p0) 0 [] with
    | (_, none) => ([], 0, 8)
    | (out, some q) => if nck out = 0 then (out, ((p0 + q : Nat) : Int), 0) else ([], 0, 8)) := nread_pgo zs hr.2 p0 (by omega)
  have HWL : Hid ((win zs p0).length = M) := by show _ = _; rw [win_len, hl, hM]; omega
  have HWB : Hid (∀ z ∈ win zs p0, 0 ≤ z ∧ z ≤ 255) := fun z hz => hr.2 z (List.mem_of_mem_drop (List.mem_of_mem_take hz))
  have KN : Hid (∀ N, N = M → Calls Try.prog 70 #[.slice (some ⟨b, o + p0, none⟩) N (cap - p0)] w (NewPost (win zs p0) w)) := by
    intro N hN
    subst hN
    have hcut : Rd w (some ⟨b, o + p0, none⟩) (win zs p0) := by
      have := hr.cut p0 N (by omega) (a' := some ⟨b, o + p0, none⟩) (fun _ b' o' e => by cases e; rfl)
      have e : (zs.drop p0).take N = win zs p0 := by
        unfold win
        rw [hM, List.take_eq_take_iff, List.length_drop, hl]
        omega
      rw [e] at this
      exact this
    have := new_any ⟨b, o + p0, none⟩ (cap - p0) (win zs p0) w hcut (by rw [HWL.out]; omega)
    rw [HWL.out] at this
    unfold NewPost
    rw [HWL.out]
    exact this
  generalize win zs p0 = l at *
  obtain ⟨R, hR⟩ : ∃ R, nread zs (p0 : Int) = R := ⟨_, rfl⟩
  rw [hR] at HX ⊢
  clear hr hl hR
  have h1 : ¬ (p0 : Int) < 0 := by omega
  have h2 : ¬ (len : Int) ≤ (p0 : Int) := by omega
  have h3 : (p0 : Int) ≤ (len : Int) := by omega
  have h4 : (p0 : Int) ≤ (cap : Int) := by omega
  have h5 : ¬ cap = p0 := by omega
  go_enter Try.func90, Try.ntmps90
  go_wp2_with fail
  all_goals
    refine (KN.out _ ?_).mono ?_
    · omega
    rintro e w1 ⟨gr, a', ca, rfl, H1⟩
    obtain ⟨q1, q2, q3, q4, q5, q6, q7, q8⟩ := H1.out
    rw [HWL.out] at q2 q4
    have HE : Hid (Rd w1 a' l ∧ M ≤ ca ∧ (a' = none → ca = 0) ∧ Off a' gr ∧ gr < w1.heap.size ∧ w.heap.size ≤ gr ∧ Below w.heap.size w w1 ∧ (∀ y o, a' = some ⟨y, o, none⟩ → y < w1.heap.size)) := ⟨q3, q4, q5, q6, q2.lt, q1, q8, fun y o h => (q7 y o h).2⟩
    have HS0 : Hid (RSt w1 gr a' M ca (some 0) ∧ w1.grownBy w1 (some gr)) := ⟨⟨q2, Nat.zero_le _⟩, World.grownBy.refl _ _⟩
    have hM2 : M ≤ 255 := by omega
    have KB : Hid (∀ W st, RSt W gr a' M ca st → w1.grownBy W (some gr) → Calls Try.prog 94 #[.pointer (some ⟨gr, 0, none⟩)] W fun e w' => e = .returned (.int .i64 (val (tk l st 1))) ∧ Hid (RSt w' gr a' M ca (mv M st 1) ∧ W.grownBy w' (some gr))) := fun W st g1 g2 => rbyte_any gr a' M ca l st W g1 (HE.out.1.grown g2 HE.out.2.2.2.1) HWL.out HE.out.2.1 (by omega) HE.out.2.2.1 HE.out.2.2.2.1
    have KT : Hid (∀ W st n, RSt W gr a' M ca st → w1.grownBy W (some gr) → Calls Try.prog 74 #[.pointer (some ⟨gr, 0, none⟩), .int .i64 n] W fun e w' => ∃ v ys, e = .returned v ∧ Hid (Own W.heap.size w' v (tk l st n).length ys ∧ ys.take (tk l st n).length = tk l st n ∧ RSt w' gr a' M ca (mv M st n) ∧ W.grownBy w' (some gr))) := fun W st n g1 g2 => rtake_any gr a' M ca l st n W g1 (HE.out.1.grown g2 HE.out.2.2.2.1) HWL.out HE.out.2.1 (by omega) HE.out.2.2.1 HE.out.2.2.2.1
    have KD : Hid (∀ W st, RSt W gr a' M ca st → w1.grownBy W (some gr) → Calls Try.prog 76 #[.pointer (some ⟨gr, 0, none⟩)] W fun e w' => e = .returned (.bool st.isNone) ∧ Hid (RSt w' gr a' M ca st ∧ W.grownBy w' (some gr))) := fun W st g1 g2 => rbad_any gr a' M ca l st W g1 (HE.out.1.grown g2 HE.out.2.2.2.1) HWL.out HE.out.2.1 (by omega) HE.out.2.2.1 HE.out.2.2.2.1
    have KA : Hid (∀ W st, RSt W gr a' M ca st → w1.grownBy W (some gr) → Calls Try.prog 91 #[.pointer (some ⟨gr, 0, none⟩)] W fun e w' => e = .returned (.int .i64 (pos st)) ∧ Hid (RSt w' gr a' M ca st ∧ W.grownBy w' (some gr))) := fun W st g1 g2 => rat_any gr a' M ca l st W g1 (HE.out.1.grown g2 HE.out.2.2.2.1) HWL.out HE.out.2.1 (by omega) HE.out.2.2.1 HE.out.2.2.2.1
    clear H1 q1 q2 q3 q4 q5 q6 q7 q8 KN
    go_wp2_with fail
    refine (KB.out _ _ HS0.out.1 HS0.out.2).mono ?_
    rintro e w2 ⟨rfl, H2⟩
    have HI0 : Hid (pgo l 0 [] = aft l (mv M (some 0) 1) (val (tk l (some 0) 1)) [] ∧ (0 < val (tk l (some 0) 1) → ∃ p, mv M (some 0) 1 = some p ∧ ([] : List ByteArray).length < p ∧ p ≤ M) ∧ 0 ≤ val (tk l (some 0) 1) ∧ val (tk l (some 0) 1) ≤ 255) := by
      refine ⟨?_, ?_, nb_bd l HWB.out _⟩
      · have := pgo_aft l 0 []
        rw [HWL.out] at this
        exact this
      · intro hz
        obtain ⟨p, e1, e2, e3⟩ := nb_pos l (some 0) hz
        rw [HWL.out] at e2 e3
        exact ⟨p + 1, e2, by simp, by omega⟩
    generalize val (tk l (some 0) 1) = z0 at *
    generalize mv M (some 0) 1 = st0 at *
    go_wp2_with fail
    go_loopw [9, 10] (fun v x wr => ∃ (z : Int) (st : Option Nat) (out : List ByteArray), x = .int .i64 z ∧ 0 ≤ z ∧ z ≤ 255 ∧ out.length ≤ 256 ∧ Hid (pgo l 0 [] = aft l st z out) ∧ Hid (0 < z → ∃ p, st = some p ∧ out.length < p ∧ p ≤ M) ∧ Hid (RSt wr gr a' M ca st ∧ w1.grownBy wr (some gr)) ∧ Hid ((∃ ys, OwnT w1.heap.size wr v out.length ys 1000000000000 ∧ ys.take out.length = out) ∧ ∀ s ∈ out, s.size ≤ 255)) (fun v _ _ => match v with | .slice _ n _ => 300 - n | _ => 0)
    case atStart => exact ⟨z0, st0, [], rfl, HI0.out.2.2.1, HI0.out.2.2.2, by simp, HI0.out.1, HI0.out.2.1, H2, ⟨[], OwnT.nil _ _ _, rfl⟩, by simp⟩
    case round =>
      clear HI0 H2 HS0
      obtain ⟨z, st, out, rfl, hz0, hz255, hol, HG, HP, HS, HW⟩ := hrel
      obtain ⟨ys, hO, hT⟩ := HW.out.1
      obtain ⟨ao, hv, hao⟩ := hO.shape
      subst hv
      have HO : Hid (OwnT w1.heap.size wr (.slice ao out.length ys.length) out.length ys 1000000000000 ∧ ys.take out.length = out) := ⟨hO, hT⟩
      clear hO hT hao
      generalize hyl : ys.length = yl at *
      clear hyl
      by_cases hz : 0 < z
      · obtain ⟨p, rfl, hop, hpM⟩ := HP.out hz
        have HST : Hid (pgo l 0 [] = aft l (mv M (mv M (some p) z) 1) (val (tk l (mv M (some p) z) 1)) (out ++ [lb (tk l (some p) z)])) := by
          have := aft_step l p z out hz
          rw [HWL.out] at this
          show _ = _
          rw [HG.out, this]
        have HNX : Hid ((0 < val (tk l (mv M (some p) z) 1) → ∃ p2, mv M (mv M (some p) z) 1 = some p2 ∧ (out ++ [lb (tk l (some p) z)]).length < p2 ∧ p2 ≤ M) ∧ 0 ≤ val (tk l (mv M (some p) z) 1) ∧ val (tk l (mv M (some p) z) 1) ≤ 255) := by
          refine ⟨?_, nb_bd l HWB.out _⟩
          intro h
          obtain ⟨p2, e1, e2, e3⟩ := nb_pos l _ h
          rw [HWL.out] at e2 e3
          refine ⟨p2 + 1, e2, ?_, by omega⟩
          unfold mv at e1
          simp only at e1
          by_cases hf : 0 ≤ z ∧ (p : Int) + z ≤ M
          · rw [if_pos hf] at e1
            have : p + z.toNat = p2 := by simpa using e1
            rw [List.length_append, List.length_singleton]
            omega
          · rw [if_neg hf] at e1
            cases e1
        have hfs : (lb (tk l (some p) z)).size ≤ 255 := by
          have := tk_len l (some p) z.toNat
          rw [show ((z.toNat : Nat) : Int) = z by omega] at this
          rw [lb_size]
          omega
        have KTz : Hid (Calls Try.prog 74 #[.pointer (some ⟨gr, 0, none⟩), .int .i64 z] wr fun e w' => ∃ v ys, e = .returned v ∧ Hid (Own wr.heap.size w' v (tk l (some p) z).length ys ∧ ys.take (tk l (some p) z).length = tk l (some p) z ∧ RSt w' gr a' M ca (mv M (some p) z) ∧ wr.grownBy w' (some gr))) := KT.out wr (some p) z HS.out.1 HS.out.2
        have HLB : Hid (∀ W ao n c, Rd W ao (tk l (some p) z) → (tk l (some p) z).length = n → (convert 27 9 (.slice ao n c)).run Try.prog W = .ok (.string (lb (tk l (some p) z))) W) := fun W ao n c g1 g2 => conv_rd ao n c _ W g1 g2
        have KB2 : Hid (∀ W, RSt W gr a' M ca (mv M (some p) z) → w1.grownBy W (some gr) → Calls Try.prog 94 #[.pointer (some ⟨gr, 0, none⟩)] W fun e w' => e = .returned (.int .i64 (val (tk l (mv M (some p) z) 1))) ∧ Hid (RSt w' gr a' M ca (mv M (mv M (some p) z) 1) ∧ W.grownBy w' (some gr))) := fun W => KB.out W _
        generalize val (tk l (mv M (some p) z) 1) = z2 at *
        generalize mv M (mv M (some p) z) 1 = st2 at *
        generalize mv M (some p) z = stz at *
        generalize tk l (some p) z = tz at *
        generalize lb tz = f at *
        obtain ⟨n2, hn2⟩ : ∃ n, tz.length = n := ⟨_, rfl⟩
        rw [hn2] at KTz
        clear KB KT KD KA HG HP
        go_wp2_with fail
        refine KTz.out.mono ?_
        rintro e w2 ⟨v2, zs2, rfl, H2⟩
        obtain ⟨ao2, hv2, hA2⟩ := H2.out.1.addr
        subst hv2
        have hcv : ∀ c, (convert 27 9 (.slice ao2 n2 c)).run Try.prog w2 = .ok (.string f) w2 := fun c => HLB.out w2 ao2 _ _ (by have := hA2.rdTake n2; rw [H2.out.2.1] at this; exact this) hn2
        have HO2 : Hid (OwnT w1.heap.size (w2.alloc (.cells #[.string f] 9)) (.slice ao out.length yl) out.length ys 1000000000000 ∧ ys.take out.length = out) := ⟨(HO.out.1.keepOff H2.out.2.2.2 HE.out.2.2.2.2.1).below ((Below.refl _ _).alloc (Nat.le_refl _) _), HO.out.2⟩
        have HZ2 : Hid (w1.heap.size ≤ (w2.alloc (.cells #[.string f] 9)).heap.size) := by have := HS.out.2.size; have := H2.out.2.2.2.size; show _ ≤ _; simp; omega
        clear KTz HLB hA2
        generalize zs2.length = c2 at *
        go_wp2_with (at_builtin; refine wpList_append_T tyN _ rfl _ _ 53 9 Try.underlying53 rfl w1.heap.size _ out.length ys 1000000000000 rfl HO2.out.1 (some ⟨w2.heap.size, 0, none⟩) 1 1 [f] rfl (one_rdT w2 f) rfl (by intro s hs; simp at hs; subst hs; omega) (by omega) HZ2.out ?_; intro v' w' ys' hO' hT' hG'; have HG2 : Hid ((w2.alloc (.cells #[.string f] 9)).grownBy w' (Value.slice ao out.length yl).ownBlock) := hG'; clear hG')
        have hown := HO.out.1.1.lt
        have HR3 : Hid (RSt w' gr a' M ca stz ∧ w1.grownBy w' (some gr)) := ⟨H2.out.2.2.1.same (same_app HE.out.2.2.2.2.1 HS.out.2 H2.out.2.2.2 HG2.out hown), grown_app HS.out.2 H2.out.2.2.2 HG2.out hown⟩
        refine (KB2.out _ HR3.out.1 HR3.out.2).mono ?_
        rintro e w4 ⟨rfl, H4⟩
        obtain ⟨ao', hv', _⟩ := hO'.out.shape
        subst hv'
        go_wp2
        refine ⟨⟨z2, st2, out ++ [f], rfl, HNX.out.2.1, HNX.out.2.2, by rw [List.length_append, List.length_singleton]; omega, HST, HNX.out.1, ⟨H4.out.1, grown_two HR3.out.2 H4.out.2⟩, ⟨ys', ?_, ?_⟩, ?_⟩, ?_⟩
        · rw [List.length_append]; exact hO'.out.keepOff H4.out.2 HE.out.2.2.2.2.1
        · rw [List.length_append]; exact hT'.out.trans (by rw [HO2.out.2])
        · intro s hs
          rcases List.mem_append.1 hs with hs | hs
          · exact HW.out.2 s hs
          · simp at hs; subst hs; exact hfs
        · simp; omega
      · obtain rfl : z = 0 := by omega
        have hR : pgo l 0 [] = (out, st) := HG.out
        rw [hR] at HX
        clear hR HG HP KB KT
        cases st with
        | none =>
          have e := HX.out
          simp only at e
          subst e
          have KDz := KD.out wr none HS.out.1 HS.out.2
          have KD2 : Hid (Calls Try.prog 76 #[.pointer (some ⟨gr, 0, none⟩)] wr fun e w' => e = .returned (.bool true) ∧ Hid (RSt w' gr a' M ca none ∧ wr.grownBy w' (some gr))) := KDz
          clear KDz HX KD KA
          go_wp2_with fail
          refine KD2.out.mono ?_
          rintro e w2 ⟨rfl, H2⟩
          go_wp2
          go_ret3
          exact rpost_none rfl (below_off (below_off HE.out.2.2.2.2.2.2.1 HS.out.2 HE.out.2.2.2.2.2.1 HE.out.2.2.2.2.2.2.1.size) H2.out.2 HE.out.2.2.2.2.2.1 (Nat.le_trans HE.out.2.2.2.2.2.2.1.size HS.out.2.size))
        | some q =>
          have hqM : q ≤ M := HS.out.1.2
          have KD2 : Hid (Calls Try.prog 76 #[.pointer (some ⟨gr, 0, none⟩)] wr fun e w' => e = .returned (.bool false) ∧ Hid (RSt w' gr a' M ca (some q) ∧ wr.grownBy w' (some gr))) := KD.out wr (some q) HS.out.1 HS.out.2
          have KA2 : Hid (∀ W, RSt W gr a' M ca (some q) → w1.grownBy W (some gr) → Calls Try.prog 91 #[.pointer (some ⟨gr, 0, none⟩)] W fun e w' => e = .returned (.int .i64 q) ∧ Hid (RSt w' gr a' M ca (some q) ∧ W.grownBy w' (some gr))) := fun W g1 g2 => KA.out W (some q) g1 g2
          have HZ : Hid (nsz out ≤ 1000000000000) := by
            have : ∀ l : List ByteArray, (∀ s ∈ l, s.size ≤ 255) → nsz l ≤ 256 * l.length + 1 := by
              intro l
              induction l with
              | nil => intro _; simp [nsz]
              | cons x l ih => intro h; have := ih (fun s hs => h s (by simp [hs])); have := h x (by simp); simp only [nsz, List.length_cons]; omega
            have := this out HW.out.2
            show _ ≤ _
            omega
          have e := HX.out
          simp only at e
          have HXX : Hid (R = if nck out = 0 then (out, ((p0 + q : Nat) : Int), 0) else ([], 0, 8)) := e
          clear e HX KD KA
          go_wp2_with fail
          refine KD2.out.mono ?_
          rintro e w2 ⟨rfl, H2⟩
          have hO2 := HO.out.1.keepOff H2.out.2 HE.out.2.2.2.2.1
          have hnm : Nm w2 ao out.length out := ⟨by have := hO2.rd out.length; rw [HO.out.2] at this; exact this, rfl, HZ.out⟩
          have KC : Hid (Calls Try.prog 42 #[.slice ao out.length yl] w2 fun e w' => e = .returned (.int .i64 (nck out)) ∧ w' = w2) := pm_check yl hnm
          have HO3 : Hid (OwnT w1.heap.size w2 (.slice ao out.length yl) out.length ys 1000000000000) := hO2
          have HG2 : Hid (RSt w2 gr a' M ca (some q) ∧ w1.grownBy w2 (some gr)) := ⟨H2.out.1, grown_two HS.out.2 H2.out.2⟩
          clear hO2 hnm KD2 H2
          by_cases hk : nck out = 0
          · rw [hk] at KC
            have e := HXX.out
            rw [if_pos hk] at e
            subst e
            clear hk HXX
            have hadd : IntKind.i64.wrap ((p0 : Int) + (q : Int)) = ((p0 + q : Nat) : Int) := by rw [IntKind.wrap_i64]; omega
            go_wp2_with fail
            refine KC.out.mono ?_
            rintro e w3 ⟨rfl, rfl⟩
            go_wp2_with fail
            refine (KA2.out _ HG2.out.1 HG2.out.2).mono ?_
            rintro e w4 ⟨rfl, H4⟩
            go_wp2
            go_ret3
            refine ⟨_, ys, rfl, (HO3.out.keepOff H4.out.2 HE.out.2.2.2.2.1).mono HE.out.2.2.2.2.2.2.1.size, HO.out.2, below_off HE.out.2.2.2.2.2.2.1 (grown_two HG2.out.2 H4.out.2) HE.out.2.2.2.2.2.1 HE.out.2.2.2.2.2.2.1.size⟩
          · have e := HXX.out
            rw [if_neg hk] at e
            subst e
            clear HXX
            generalize nck out = kk at *
            have hq : (kk != 0) = true := bne_iff_ne.2 hk
            clear hk
            go_wp2_with fail
            refine KC.out.mono ?_
            rintro e w3 ⟨rfl, rfl⟩
            go_wp2
            go_ret3
            exact rpost_none rfl (below_off HE.out.2.2.2.2.2.2.1 HG2.out.2 HE.out.2.2.2.2.2.1 HE.out.2.2.2.2.2.2.1.size)
end Go.Proofs.Ytdeoembjfdbbkaa
/- The program's names: read out of octets, at any place. -/
namespace Go.Proofs.Ytdeoembjfdbbkaa
open Go.ChangeShapes Go.WideShapes Go.ChangeAt Go.RowKit
set_option linter.unusedVariables false
set_option linter.unusedSimpArgs false


set_option maxRecDepth 100000 in
theorem pread_any (a : Option Addr) (len cap : Nat) (zs : List Int) (d : Int) (w : World) (h : Rd w a zs) (hl : zs.length = len) (hm : len ≤ 140737488355328) (hc : len ≤ cap ∧ cap ≤ 9223372036854775807) : Calls Try.prog 90 #[.slice a len cap, .int .i64 d] w (RPost (nread zs d) w) := by
  by_cases hd : d < 0 ∨ (len : Int) ≤ d
  · have hp : nread zs d = ([], 0, 2) := by unfold nread; rw [if_pos (by rw [hl]; exact hd)]
    rw [hp]
    have hd' : d < 0 ∨ (¬ d < 0 ∧ (len : Int) ≤ d) := by omega
    clear h hl hp hd
    rcases hd' with hd | ⟨hd, hd2⟩
    all_goals
      go_enter Try.func90, Try.ntmps90
      go_wp2
      go_ret3
      exact rpost_none rfl (Below.refl _ _)
  · obtain ⟨p, rfl⟩ : ∃ p : Nat, d = (p : Int) := ⟨d.toNat, by omega⟩
    rcases h.1 with h1 | ⟨b, o, rfl, _, _⟩
    · subst h1; simp at hl; omega
    · exact pread_in b o len cap p _ zs w h hl hm hc (by omega) rfl
end Go.Proofs.Ytdeoembjfdbbkaa
/- The program's data: numbers and names read. -/
namespace Go.Proofs.Ytdeoembjfdbbkaa
open Go.ChangeShapes Go.WideShapes Go.ChangeAt Go.RowKit
set_option linter.unusedVariables false
set_option linter.unusedSimpArgs false

/-- A reader over bytes, and what stays behind its making (the world Wb). -/
structure RS (Wb W : World) (g : Nat) (a : Option Addr) (len cap : Nat) (zs : List Int) (st : Option Nat) : Prop where
  rst : RSt W g a len cap st
  kp : Wb.grownBy W (some g)
  rd : Rd Wb a zs
  hl : zs.length = len
  hc : len ≤ cap
  hd : a = none → cap = 0
  off : Off a g
  gl : g < Wb.heap.size
  hm : len ≤ 65535
theorem grown2 {w1 wr w2 : World} {gr : Nat} (h1 : w1.grownBy wr (some gr)) (h2 : wr.grownBy w2 (some gr)) : w1.grownBy w2 (some gr) :=
  ⟨h2.os.trans h1.os, h2.tape.trans h1.tape, h2.output.trans h1.output, Nat.le_trans h1.size h2.size, fun k hk hne => (h2.block k (Nat.lt_of_lt_of_le hk h1.size) hne).trans (h1.block k hk hne)⟩
theorem RS.rdW {Wb W : World} {g : Nat} {a : Option Addr} {len cap : Nat} {zs : List Int} {st : Option Nat} (h : RS Wb W g a len cap zs st) : Rd W a zs := h.rd.grown h.kp h.off
theorem RS.to {Wb W W' : World} {g : Nat} {a : Option Addr} {len cap : Nat} {zs : List Int} {st st' : Option Nat} (h : RS Wb W g a len cap zs st) (h1 : RSt W' g a len cap st') (h2 : W.grownBy W' (some g)) : RS Wb W' g a len cap zs st' :=
  ⟨h1, grown2 h.kp h2, h.rd, h.hl, h.hc, h.hd, h.off, h.gl, h.hm⟩
theorem RS.app {Wb W W' : World} {g : Nat} {a : Option Addr} {len cap : Nat} {zs : List Int} {st : Option Nat} {o : Option Nat} (h : RS Wb W g a len cap zs st) (h2 : W.grownBy W' o) (ho : ∀ j, o = some j → Wb.heap.size ≤ j) : RS Wb W' g a len cap zs st := by
  have hgW : g < W.heap.size := Nat.lt_of_lt_of_le h.gl h.kp.size
  refine ⟨h.rst.same (h2.block g hgW (fun e => by have := ho g e.symm; have := h.gl; omega)), ?_, h.rd, h.hl, h.hc, h.hd, h.off, h.gl, h.hm⟩
  exact ⟨h2.os.trans h.kp.os, h2.tape.trans h.kp.tape, h2.output.trans h.kp.output, Nat.le_trans h.kp.size h2.size, fun k hk hne => (h2.block k (Nat.lt_of_lt_of_le hk h.kp.size) (fun e => by have := ho k e.symm; omega)).trans (h.kp.block k hk hne)⟩
theorem RS.below {Wb W W' : World} {g : Nat} {a : Option Addr} {len cap : Nat} {zs : List Int} {st : Option Nat} (h : RS Wb W g a len cap zs st) (h2 : Below W.heap.size W W') : RS Wb W' g a len cap zs st := h.app (o := none) (below_grown h2) (by rintro j ⟨⟩)
theorem UOwn.kept {B g : Nat} {w w' : World} {s : Sl} {us : List Nat} (h : UOwn B w s us) (hg : w.grownBy w' (some g)) (hB : g < B) : UOwn B w' s us := h.keep fun j h1 h2 => hg.block j h2 (fun e => by cases e; omega)
theorem OwnN.kept {B g : Nat} {w w' : World} {v : Value} {nss : List (List ByteArray)} (h : OwnN B w v nss) (hg : w.grownBy w' (some g)) (hB : g < B) : OwnN B w' v nss := h.keep fun j h1 h2 => hg.block j h2 (fun e => by cases e; omega)
theorem OwnN.stays {B : Nat} {w w' : World} {v : Value} {nss : List (List ByteArray)} (h : OwnN B w v nss) (hb : Below w.heap.size w w') : OwnN B w' v nss := h.keep fun j _ h2 => hb.block j h2
theorem UOwn.stays {B : Nat} {w w' : World} {s : Sl} {us : List Nat} (h : UOwn B w s us) (hb : Below w.heap.size w w') : UOwn B w' s us := h.keep fun j _ h2 => hb.block j h2
theorem Own1.stays {B : Nat} {w w' : World} {s : Sl} {nm : List ByteArray} (h : Own1 B w s nm) (hb : Below w.heap.size w w') : Own1 B w' s nm := h.keep fun j _ h2 _ => hb.block j h2
theorem Own1.kept {B g : Nat} {w w' : World} {s : Sl} {nm : List ByteArray} (h : Own1 B w s nm) (hg : w.grownBy w' (some g)) (hB : g < B) : Own1 B w' s nm := h.keep fun j h1 h2 _ => hg.block j h2 (fun e => by cases e; omega)
theorem BOwn.stays {B : Nat} {w w' : World} {s : Sl} {zs : List Int} (h : BOwn B w s zs) (hb : Below w.heap.size w w') : BOwn B w' s zs := h.keep fun j _ h2 => hb.block j h2
theorem BOwn.kept {B g : Nat} {w w' : World} {s : Sl} {zs : List Int} (h : BOwn B w s zs) (hg : w.grownBy w' (some g)) (hB : g < B) : BOwn B w' s zs := h.keep fun j h1 h2 => hg.block j h2 (fun e => by cases e; omega)
/-- A number read. -/
def pnu (zs : List Int) (st : Option Nat) (wd : Nat) : Nat := (val (tk zs st (wd : Int))).toNat
theorem pnu_bd (zs : List Int) (hb : ∀ z ∈ zs, 0 ≤ z ∧ z ≤ 255) (st : Option Nat) (wd : Nat) (hw : wd ≤ 4) : pnu zs st wd ≤ 4294967295 ∧ (pnu zs st wd : Int) = val (tk zs st (wd : Int)) := by
  have h1 := tk_len zs st wd
  have h2 := val_small4 (tk zs st (wd : Int)) (tk_bytes zs st wd hb) (by omega)
  unfold pnu
  omega
set_option maxRecDepth 100000 in
set_option maxHeartbeats 1000000 in
theorem takenum_any (Wb w : World) (g : Nat) (a : Option Addr) (len cap : Nat) (zs : List Int) (st : Option Nat) (wd : Nat) (hw : wd = 1 ∨ wd = 2 ∨ wd = 4) (h : RS Wb w g a len cap zs st) :
    Calls Try.prog 93 #[.pointer (some ⟨g, 0, none⟩), .int .i64 wd] w fun e w' => e = .returned (.int .u32 (pnu zs st wd : Nat)) ∧ Hid (RS Wb w' g a len cap zs (mv len st (wd : Int)) ∧ w.grownBy w' (some g)) := by
  have HS : Hid (RS Wb w g a len cap zs st) := h
  have hm : len ≤ 140737488355328 := by have := h.hm; omega
  have hbd := pnu_bd zs h.rd.2 st wd (by omega)
  rcases hw with rfl | rfl | rfl
  · obtain ⟨N, hN⟩ : ∃ N, pnu zs st 1 = N := ⟨_, rfl⟩
    have K : Hid (Calls Try.prog 94 #[.pointer (some ⟨g, 0, none⟩)] w fun e w' => e = .returned (.int .i64 (N : Int)) ∧ Hid (RSt w' g a len cap (mv len st 1) ∧ w.grownBy w' (some g))) := by
      have := rbyte_any g a len cap zs st w h.rst h.rdW h.hl h.hc hm h.hd h.off
      rw [← hN, hbd.2]
      exact this
    rw [hN] at hbd ⊢
    have hN4 := hbd.1
    have hNm : (N : Int) % 4294967296 = (N : Int) := by omega
    clear h hbd hN hm
    go_enter Try.func93, Try.ntmps93
    go_wp2_with fail
    refine K.out.mono ?_
    rintro e w1 ⟨rfl, H1⟩
    go_wp2
    go_ret
    exact ⟨by first | rfl | simp, HS.out.to H1.out.1 H1.out.2, H1.out.2⟩
  · obtain ⟨N, hN⟩ : ∃ N, pnu zs st 2 = N := ⟨_, rfl⟩
    have K : Hid (Calls Try.prog 100 #[.pointer (some ⟨g, 0, none⟩)] w fun e w' => e = .returned (.int .i64 (N : Int)) ∧ Hid (RSt w' g a len cap (mv len st 2) ∧ w.grownBy w' (some g))) := by
      have := ru16_any g a len cap zs st w h.rst h.rdW h.hl h.hc hm h.hd h.off
      rw [← hN, hbd.2]
      exact this
    rw [hN] at hbd ⊢
    have hN4 := hbd.1
    have hNm : (N : Int) % 4294967296 = (N : Int) := by omega
    clear h hbd hN hm
    go_enter Try.func93, Try.ntmps93
    go_wp2_with fail
    refine K.out.mono ?_
    rintro e w1 ⟨rfl, H1⟩
    go_wp2
    go_ret
    exact ⟨by first | rfl | simp, HS.out.to H1.out.1 H1.out.2, H1.out.2⟩
  · obtain ⟨N, hN⟩ : ∃ N, pnu zs st 4 = N := ⟨_, rfl⟩
    have K : Hid (Calls Try.prog 101 #[.pointer (some ⟨g, 0, none⟩)] w fun e w' => e = .returned (.int .u32 (N : Int)) ∧ Hid (RSt w' g a len cap (mv len st 4) ∧ w.grownBy w' (some g))) := by
      have := ru32_any g a len cap zs st w h.rst h.rdW h.hl h.hc hm h.hd h.off
      rw [← hN, hbd.2]
      exact this
    rw [hN]
    clear h hbd hN hm
    go_enter Try.func93, Try.ntmps93
    go_wp2_with fail
    refine K.out.mono ?_
    rintro e w1 ⟨rfl, H1⟩
    go_wp2
    go_ret
    exact ⟨by first | rfl | simp, HS.out.to H1.out.1 H1.out.2, H1.out.2⟩
/-- Numbers read one behind the other. -/
def pnus (zs : List Int) (len : Nat) : Option Nat → Nat → Nat → List Nat × Option Nat
  | st, _, 0 => ([], st)
  | st, wd, k + 1 => let r := pnus zs len st wd k; (r.1 ++ [pnu zs r.2 wd], mv len r.2 (wd : Int))
theorem pnus_len (zs : List Int) (len : Nat) (st : Option Nat) (wd : Nat) : ∀ k, (pnus zs len st wd k).1.length = k
  | 0 => rfl
  | k + 1 => by simp [pnus, pnus_len zs len st wd k]
theorem wp_nums {w : World} {ops : Array Oper} {rest : List Oper} {o : Oper} {a : Act} {Q : Exit → Act → World → Prop} (hgd : o.guard = none) (s x : Operand)
    (ho : o.op = .call { callee := .builtin .append, args := #[s, x], argTypes := #[25, 25] }) (B : Nat) (s2 : Sl) (us : List Nat) (hs : a.eval s = .slice s2.a s2.n s2.c) (hown : UOwn B w s2 us)
    (ao : Addr) (hx : a.eval x = .slice (some ao) 1 1) (u : Nat) (hr : RdV w (some ao) [.int .u32 (u : Int)]) (hu : u ≤ 4294967295) (hn : us.length ≤ 1000) (hB : B ≤ w.heap.size)
    (h : ∀ (t' : Sl) w', Hid (UOwn B w' t' (us ++ [u])) → Hid (w.grownBy w' (Value.ownBlock (.slice s2.a s2.n s2.c)) ∧ ∀ j, (Value.ownBlock (.slice s2.a s2.n s2.c)) = some j → B ≤ j) → wpList Try.prog ops Q rest (a.put o.dst (.slice t'.a t'.n t'.c)) w') :
    wpList Try.prog ops Q (o :: rest) a w := by
  obtain ⟨xs, h1, h2, h3⟩ := hown
  refine wpList_append_row tyU w hgd s x 25 ho B _ us.length xs hs h1 _ 1 [.int .u32 (u : Int)] hx (src_of Try.underlying25 hr rfl (by intro v hv; simp at hv; subst hv; rfl)) (by omega) (by simp only [maxLen]; omega) hB ?_
  intro v' w' xs' q1 q2 q3 q4
  obtain ⟨ao', rfl, _⟩ := q1.out.shape
  refine h ⟨ao', us.length + 1, xs'.length⟩ w' ⟨xs', by simpa using q1.out, ?_, ?_, q4.out.1 _ ⟨0, rfl, by omega, by omega⟩ h3.2 (by intro v hv; simp at hv; subst hv; exact ⟨u, rfl, by omega, by omega⟩)⟩ ⟨q3, h1.lt⟩
  · have := q2.out
    rw [h2] at this
    simpa [uv] using this
  · intro v hv
    simp only [List.mem_append, List.mem_singleton] at hv
    rcases hv with hv | rfl
    · exact h3.1 v hv
    · exact hu
set_option maxRecDepth 100000 in
set_option maxHeartbeats 2000000 in
theorem takenums_any (Wb w : World) (g : Nat) (a : Option Addr) (len cap : Nat) (zs : List Int) (st : Option Nat) (n wd : Nat) (hw : n = 0 ∨ wd = 1 ∨ wd = 2 ∨ wd = 4) (hn : n ≤ 1000) (h : RS Wb w g a len cap zs st) :
    Calls Try.prog 72 #[.pointer (some ⟨g, 0, none⟩), .int .i64 n, .int .i64 wd] w fun e w' => ∃ s : Sl, e = .returned (.slice s.a s.n s.c) ∧ Hid (UOwn Wb.heap.size w' s (pnus zs len st wd n).1 ∧ RS Wb w' g a len cap zs (pnus zs len st wd n).2) := by
  have HS : Hid (RS Wb w g a len cap zs st) := h
  have HBD : Hid (∀ z ∈ zs, 0 ≤ z ∧ z ≤ 255) := h.rd.2
  clear h
  go_enter Try.func72, Try.ntmps72
  go_wp2_with fail
  go_loopw [7, 9] (fun v i wr => ∃ (k : Nat) (s : Sl), k ≤ n ∧ i = .int .i64 (k : Int) ∧ v = .slice s.a s.n s.c ∧ Hid (UOwn Wb.heap.size wr s (pnus zs len st wd k).1 ∧ RS Wb wr g a len cap zs (pnus zs len st wd k).2)) (fun _ i _ => n - (intOf i).toNat)
  case atStart => exact ⟨0, ⟨none, 0, 0⟩, Nat.zero_le _, rfl, rfl, nil_uown _ _, HS.out⟩
  case round =>
    obtain ⟨k, s, hk, rfl, rfl, HG⟩ := hrel
    by_cases hlt : k < n
    · have hlt' : (k : Int) < (n : Int) := by omega
      have hw' : wd = 1 ∨ wd = 2 ∨ wd = 4 := by omega
      have hE : (pnus zs len st wd (k + 1)).1 = (pnus zs len st wd k).1 ++ [pnu zs (pnus zs len st wd k).2 wd] ∧ (pnus zs len st wd (k + 1)).2 = mv len (pnus zs len st wd k).2 (wd : Int) := ⟨rfl, rfl⟩
      have HE : Hid ((pnus zs len st wd (k + 1)).1 = (pnus zs len st wd k).1 ++ [pnu zs (pnus zs len st wd k).2 wd] ∧ (pnus zs len st wd (k + 1)).2 = mv len (pnus zs len st wd k).2 (wd : Int)) := hE
      have HLN : Hid ((pnus zs len st wd k).1.length ≤ 1000) := by rw [pnus_len]; show k ≤ 1000; omega
      clear hE
      generalize pnus zs len st wd k = r0 at *
      have K : Hid (Calls Try.prog 93 #[.pointer (some ⟨g, 0, none⟩), .int .i64 wd] wr fun e w' => e = .returned (.int .u32 (pnu zs r0.2 wd : Nat)) ∧ Hid (RS Wb w' g a len cap zs (mv len r0.2 (wd : Int)) ∧ wr.grownBy w' (some g))) := takenum_any Wb wr g a len cap zs r0.2 wd hw' HG.out.2
      have hub := (pnu_bd zs HBD.out r0.2 wd (by omega)).1
      generalize pnu zs r0.2 wd = u at *
      generalize mv len r0.2 (wd : Int) = st1 at *
      go_wp2_with fail
      refine K.out.mono ?_
      rintro e w1 ⟨rfl, H1⟩
      have HU5 : Hid (UOwn Wb.heap.size (w1.alloc (.cells #[.int .u32 (u : Int)] 54)) s r0.1 ∧ RS Wb (w1.alloc (.cells #[.int .u32 (u : Int)] 54)) g a len cap zs st1) := ⟨(HG.out.1.kept H1.out.2 HG.out.2.gl).stays ((Below.refl _ _).alloc (Nat.le_refl _) _), H1.out.1.below ((Below.refl _ _).alloc (Nat.le_refl _) _)⟩
      have HO5 : Hid (RdV (w1.alloc (.cells #[.int .u32 (u : Int)] 54)) (some ⟨w1.heap.size, 0, none⟩) [.int .u32 (u : Int)]) := one_u w1 u
      go_wp2_with (at_builtin; refine wp_nums rfl _ _ rfl Wb.heap.size s r0.1 rfl HU5.out.1 ⟨w1.heap.size, 0, none⟩ rfl u HO5.out hub HLN.out HU5.out.2.kp.size ?_; intro t6 W6 HG6 HX6)
      refine ⟨⟨k + 1, t6, by omega, by go_num, rfl, ?_⟩, by simp [intOf]; omega⟩
      refine ⟨by rw [HE.out.1]; exact HG6.out, by rw [HE.out.2]; exact HU5.out.2.app HX6.out.1 HX6.out.2⟩
    · have hge : ¬ (k : Int) < (n : Int) := by omega
      have hkn : k = n := by omega
      subst hkn
      go_wp2_with fail
      go_ret
      exact ⟨s, rfl, HG⟩
end Go.Proofs.Ytdeoembjfdbbkaa
/- The program's data: names read. -/
namespace Go.Proofs.Ytdeoembjfdbbkaa
open Go.ChangeShapes Go.WideShapes Go.ChangeAt Go.RowKit
set_option linter.unusedVariables false
set_option linter.unusedSimpArgs false

/-- A name read, and where the reader is then. -/
def pnm1 (zs : List Int) (len : Nat) (st : Option Nat) : List ByteArray × Option Nat := ((nread zs (pos st)).1, jm len st (if (nread zs (pos st)).2.2 = 0 then (nread zs (pos st)).2.1 else -1))
def pnms (zs : List Int) (len : Nat) (st : Option Nat) : Nat → List (List ByteArray) × Option Nat
  | 0 => ([], st)
  | k + 1 => ((pnms zs len st k).1 ++ [(pnm1 zs len (pnms zs len st k).2).1], (pnm1 zs len (pnms zs len st k).2).2)
theorem pnms_len (zs : List Int) (len : Nat) (st : Option Nat) : ∀ k, (pnms zs len st k).1.length = k
  | 0 => rfl
  | k + 1 => by simp [pnms, pnms_len zs len st k]
theorem one_n (w : World) (s : Sl) : RdV (w.alloc (.cells #[.slice s.a s.n s.c] 53)) (some ⟨w.heap.size, 0, none⟩) [.slice s.a s.n s.c] := by
  refine .inr ⟨w.heap.size, 0, rfl, by simp, fun i hi => ?_⟩
  have : i = 0 := by simp at hi; omega
  subst this
  unfold World.cell?
  rw [heap_alloc_new]
  rfl
/-- What a name's reading tells, its list's own memory told by its parts. -/
def RP2 (B : Nat) (r : List ByteArray × Int × Int) (w : World) (e : Ending) (w' : World) : Prop :=
  ∃ s : Sl, e = .returned (.tuple #[.slice s.a s.n s.c, .int .i64 r.2.1, .int .i64 r.2.2]) ∧ Hid (Own1 B w' s r.1 ∧ Below w.heap.size w w')
theorem rp2 {r : List ByteArray × Int × Int} {w : World} {e : Ending} {w' : World} {B : Nat} (hB : B ≤ w.heap.size) (h : RPost r w e w') : RP2 B r w e w' := by
  obtain ⟨v, ys, rfl, H⟩ := h
  obtain ⟨h1, h2, h3⟩ := H.out
  obtain ⟨ao, rfl, _⟩ := h1.shape
  exact ⟨⟨ao, r.1.length, ys.length⟩, rfl, ⟨ys, h1.mono hB, h2⟩, h3⟩
set_option maxRecDepth 100000 in
set_option maxHeartbeats 2000000 in
theorem takenames_any (Wb w : World) (g : Nat) (a : Option Addr) (len cap : Nat) (zs : List Int) (st : Option Nat) (n : Nat) (a0 : Option Addr) (c0 : Nat) (hn : n ≤ 1000) (hr0 : ∀ W, Wb.grownBy W (some g) → Rd W a0 zs) (hc0 : len ≤ c0 ∧ c0 ≤ 9223372036854775807) (h : RS Wb w g a len cap zs st) :
    Calls Try.prog 71 #[.pointer (some ⟨g, 0, none⟩), .slice a0 len c0, .int .i64 n] w fun e w' => ∃ s : Sl, e = .returned (.slice s.a s.n s.c) ∧ Hid (OwnN Wb.heap.size w' (.slice s.a s.n s.c) (pnms zs len st n).1 ∧ RS Wb w' g a len cap zs (pnms zs len st n).2) := by
  have HS : Hid (RS Wb w g a len cap zs st) := h
  have HR0 : Hid ((∀ W, Wb.grownBy W (some g) → Rd W a0 zs) ∧ zs.length = len ∧ len ≤ 65535 ∧ len ≤ c0 ∧ c0 ≤ 9223372036854775807) := ⟨hr0, h.hl, h.hm, hc0⟩
  clear h hr0 hc0
  go_enter Try.func71, Try.ntmps71
  go_wp2_with fail
  go_loopw [7, 12] (fun v i wr => ∃ (k : Nat) (s : Sl), k ≤ n ∧ i = .int .i64 (k : Int) ∧ v = .slice s.a s.n s.c ∧ Hid (OwnN Wb.heap.size wr (.slice s.a s.n s.c) (pnms zs len st k).1 ∧ RS Wb wr g a len cap zs (pnms zs len st k).2)) (fun _ i _ => n - (intOf i).toNat)
  case atStart => exact ⟨0, ⟨none, 0, 0⟩, Nat.zero_le _, rfl, rfl, OwnN.nil _ _, HS.out⟩
  case round =>
    obtain ⟨k, s, hk, rfl, rfl, HG⟩ := hrel
    by_cases hlt : k < n
    · have hlt' : (k : Int) < (n : Int) := by omega
      have HE : Hid ((pnms zs len st (k + 1)).1 = (pnms zs len st k).1 ++ [(pnm1 zs len (pnms zs len st k).2).1] ∧ (pnms zs len st (k + 1)).2 = (pnm1 zs len (pnms zs len st k).2).2) := ⟨rfl, rfl⟩
      have HLN : Hid ((pnms zs len st k).1.length ≤ 1000) := by rw [pnms_len]; show k ≤ 1000; omega
      generalize pnms zs len st k = r0 at *
      have KA : Hid (Calls Try.prog 91 #[.pointer (some ⟨g, 0, none⟩)] wr fun e w' => e = .returned (.int .i64 (pos r0.2)) ∧ Hid (RSt w' g a len cap r0.2 ∧ wr.grownBy w' (some g))) := rat_any g a len cap zs r0.2 wr HG.out.2.rst HG.out.2.rdW HG.out.2.hl HG.out.2.hc (by have := HG.out.2.hm; omega) HG.out.2.hd HG.out.2.off
      have KR : Hid (∀ W, Wb.grownBy W (some g) → Calls Try.prog 90 #[.slice a0 len c0, .int .i64 (pos r0.2)] W (RP2 Wb.heap.size (nread zs (pos r0.2)) W)) := by
        intro W hW
        obtain ⟨q1, q3, q4, q5⟩ := HR0.out
        refine (pread_any a0 len c0 zs (pos r0.2) W (q1 W hW) q3 (by omega) q5).mono ?_
        intro e w' hh
        exact rp2 hW.size hh
      have KJ : Hid (∀ W x, RS Wb W g a len cap zs r0.2 → Calls Try.prog 92 #[.pointer (some ⟨g, 0, none⟩), .int .i64 x] W fun e w' => e = .returned (.tuple #[]) ∧ Hid (RSt w' g a len cap (jm len r0.2 x) ∧ W.grownBy w' (some g))) := fun W x hW => rjump_any g a len cap zs r0.2 x W hW.rst hW.rdW hW.hl hW.hc (by have := hW.hm; omega) hW.hd hW.off
      have HX : Hid (pnm1 zs len r0.2 = ((nread zs (pos r0.2)).1, jm len r0.2 (if (nread zs (pos r0.2)).2.2 = 0 then (nread zs (pos r0.2)).2.1 else -1))) := (show _ = _ from rfl)
      generalize nread zs (pos r0.2) = nr at *
      obtain ⟨nm, nx, er⟩ := nr
      generalize pos r0.2 = pp at *
      simp only at KR HX
      go_wp2_with fail
      refine KA.out.mono ?_
      rintro e w1 ⟨rfl, H1⟩
      have HS1 : Hid (RS Wb w1 g a len cap zs r0.2 ∧ OwnN Wb.heap.size w1 (.slice s.a s.n s.c) r0.1) := ⟨HG.out.2.to H1.out.1 H1.out.2, HG.out.1.kept H1.out.2 HG.out.2.gl⟩
      clear KA H1
      go_wp2_with fail
      refine (KR.out _ HS1.out.1.kp).mono ?_
      rintro e w2 ⟨s2, rfl, H2⟩
      simp only at H2
      have HS2 : Hid (RS Wb w2 g a len cap zs r0.2 ∧ OwnN Wb.heap.size w2 (.slice s.a s.n s.c) r0.1 ∧ Own1 Wb.heap.size w2 s2 nm) := ⟨HS1.out.1.below H2.out.2, HS1.out.2.stays H2.out.2, H2.out.1⟩
      clear KR HS1 H2
      obtain ⟨y, hy⟩ : ∃ y, y = (if er = 0 then nx else -1) := ⟨_, rfl⟩
      have HY : Hid (pnm1 zs len r0.2 = (nm, jm len r0.2 y)) := by show _ = _; rw [hy]; exact HX.out
      clear HX
      by_cases he : er = 0
      · have he' : (er != 0) = false := by simp [he]
        rw [if_pos he] at hy
        subst hy
        clear he
        go_wp2_with fail
        refine (KJ.out _ _ HS2.out.1).mono ?_
        rintro e w3 ⟨rfl, H3⟩
        have hnb : Below w3.heap.size w3 (w3.alloc (.cells #[.slice s2.a s2.n s2.c] 53)) := (Below.refl _ _).alloc (Nat.le_refl _) _
        have HU5 : Hid (RS Wb (w3.alloc (.cells #[.slice s2.a s2.n s2.c] 53)) g a len cap zs (jm len r0.2 y) ∧ OwnN Wb.heap.size (w3.alloc (.cells #[.slice s2.a s2.n s2.c] 53)) (.slice s.a s.n s.c) r0.1 ∧ Own1 Wb.heap.size (w3.alloc (.cells #[.slice s2.a s2.n s2.c] 53)) s2 nm) := ⟨(HS2.out.1.to H3.out.1 H3.out.2).below hnb, (HS2.out.2.1.kept H3.out.2 HS2.out.1.gl).stays hnb, (HS2.out.2.2.kept H3.out.2 HS2.out.1.gl).stays hnb⟩
        have HO5 : Hid (RdV (w3.alloc (.cells #[.slice s2.a s2.n s2.c] 53)) (some ⟨w3.heap.size, 0, none⟩) [.slice s2.a s2.n s2.c]) := one_n w3 s2
        clear hnb H3 HS2
        go_wp2_with (at_builtin; refine wp_names rfl _ _ rfl Wb.heap.size (.slice s.a s.n s.c) r0.1 rfl HU5.out.2.1 ⟨w3.heap.size, 0, none⟩ rfl s2 nm HO5.out HU5.out.2.2 HLN.out HU5.out.1.kp.size ?_; intro t6 W6 HG6 HX6)
        refine ⟨⟨k + 1, t6, by omega, by go_num, rfl, ?_⟩, by simp [intOf]; omega⟩
        rw [HE.out.1, HE.out.2, HY.out]
        exact ⟨HG6.out, HU5.out.1.app HX6.out.1 HX6.out.2⟩
      · have he' : (er != 0) = true := by simp [he]
        rw [if_neg he] at hy
        subst hy
        clear he
        go_wp2_with fail
        refine (KJ.out _ _ HS2.out.1).mono ?_
        rintro e w3 ⟨rfl, H3⟩
        have hnb : Below w3.heap.size w3 (w3.alloc (.cells #[.slice s2.a s2.n s2.c] 53)) := (Below.refl _ _).alloc (Nat.le_refl _) _
        have HU5 : Hid (RS Wb (w3.alloc (.cells #[.slice s2.a s2.n s2.c] 53)) g a len cap zs (jm len r0.2 (-1)) ∧ OwnN Wb.heap.size (w3.alloc (.cells #[.slice s2.a s2.n s2.c] 53)) (.slice s.a s.n s.c) r0.1 ∧ Own1 Wb.heap.size (w3.alloc (.cells #[.slice s2.a s2.n s2.c] 53)) s2 nm) := ⟨(HS2.out.1.to H3.out.1 H3.out.2).below hnb, (HS2.out.2.1.kept H3.out.2 HS2.out.1.gl).stays hnb, (HS2.out.2.2.kept H3.out.2 HS2.out.1.gl).stays hnb⟩
        have HO5 : Hid (RdV (w3.alloc (.cells #[.slice s2.a s2.n s2.c] 53)) (some ⟨w3.heap.size, 0, none⟩) [.slice s2.a s2.n s2.c]) := one_n w3 s2
        clear hnb H3 HS2
        go_wp2_with (at_builtin; refine wp_names rfl _ _ rfl Wb.heap.size (.slice s.a s.n s.c) r0.1 rfl HU5.out.2.1 ⟨w3.heap.size, 0, none⟩ rfl s2 nm HO5.out HU5.out.2.2 HLN.out HU5.out.1.kp.size ?_; intro t6 W6 HG6 HX6)
        refine ⟨⟨k + 1, t6, by omega, by go_num, rfl, ?_⟩, by simp [intOf]; omega⟩
        rw [HE.out.1, HE.out.2, HY.out]
        exact ⟨HG6.out, HU5.out.1.app HX6.out.1 HX6.out.2⟩
    · have hge : ¬ (k : Int) < (n : Int) := by omega
      have hkn : k = n := by omega
      subst hkn
      go_wp2_with fail
      go_ret
      exact ⟨s, rfl, HG⟩
end Go.Proofs.Ytdeoembjfdbbkaa
