/- Texts laid together, in parts: Dm Lg Fa Fb Fc Fd Ha Hb Hc Nxa Hd He Nsw Hf. -/
import Derived.Test.YtfkfjodfjgjbkaaGreatDoorWua
import Derived.WalkKit
import Derived.ProofKit
import Derived.OpenShut
import Derived.ShutString
import Derived.ChangeOld
import Derived.Below
import Derived.JoinedCond
import Derived.Deep.Strs
import Derived.Deep.Slices
import Derived.Lib.SmallJoins
import Derived.Deep.CutBlock
import Derived.Lib.Bytealg
namespace Go.Proofs.YtfkfjodfjgjbkaaGreatDoor
open Go.ChangeShapes Go.WideShapes Go.ChangeAt Go.RowKit Go.Deep
set_option linter.unusedVariables false
set_option linter.unusedSimpArgs false
/-- A slice's value: address, length, room. -/
structure Sl where
  a : Option Addr
  n : Nat
  c : Nat
def Sl.v (s : Sl) : Value := .slice s.a s.n s.c
/-- Numbers of four bytes. -/
def uv (us : List Nat) : List Value := us.map fun (n : Nat) => Value.int .u32 (n : Int)
theorem uv_len (us : List Nat) : (uv us).length = us.length := by simp [uv]
/-- A list of texts that can be read. -/
structure TRd (w : World) (s : Sl) (ss : List ByteArray) : Prop where
  rd : RdT w s.a ss
  len : ss.length = s.n
  cap : s.n ≤ s.c ∧ s.c ≤ 9223372036854775807
  nil : s.a = none → s.c = 0
  z63 : ∀ x ∈ ss, x.size ≤ 9223372036854775807
theorem TRd.below {w w' : World} {s : Sl} {ss : List ByteArray} (h : TRd w s ss) (hb : Below w.heap.size w w') : TRd w' s ss := ⟨h.rd.below hb, h.len, h.cap, h.nil, h.z63⟩
/-- A list of names that can be read: at each place a list of texts. -/
structure NRd (w : World) (s : Sl) (nss : List (List ByteArray)) : Prop where
  rd : nss = [] ∨ ∃ b o, s.a = some ⟨b, o, none⟩ ∧ b < w.heap.size ∧ ∀ i (h : i < nss.length), ∃ x : Sl, w.cell? ⟨b, o + i, none⟩ = some (.slice x.a x.n x.c) ∧ TRd w x nss[i]
  len : nss.length = s.n
  cap : s.n ≤ s.c ∧ s.c ≤ 9223372036854775807
  nil : s.a = none → s.c = 0
theorem NRd.below {w w' : World} {s : Sl} {nss : List (List ByteArray)} (h : NRd w s nss) (hb : Below w.heap.size w w') : NRd w' s nss := by
  refine ⟨?_, h.len, h.cap, h.nil⟩
  rcases h.rd with h1 | ⟨b, o, h1, h2, h3⟩
  · exact .inl h1
  · refine .inr ⟨b, o, h1, Nat.lt_of_lt_of_le h2 hb.size, fun i hi => ?_⟩
    obtain ⟨x, h4, h5⟩ := h3 i hi
    exact ⟨x, (hb.cell (p := ⟨b, o + i, none⟩) h2).trans h4, h5.below hb⟩
theorem NRd.at {w : World} {s : Sl} {nss : List (List ByteArray)} (h : NRd w s nss) (i : Nat) (hi : i < nss.length) : ∃ b o, s.a = some ⟨b, o, none⟩ ∧ b < w.heap.size ∧ ∃ x : Sl, w.cell? ⟨b, o + i, none⟩ = some (.slice x.a x.n x.c) ∧ TRd w x nss[i] := by
  rcases h.rd with h1 | ⟨b, o, h1, h2, h3⟩
  · subst h1; simp at hi
  · exact ⟨b, o, h1, h2, h3 i hi⟩
/-- A list of numbers that can be read. -/
structure URd (w : World) (s : Sl) (us : List Nat) : Prop where
  rd : RdV w s.a (uv us)
  len : us.length = s.n
  cap : s.n ≤ s.c ∧ s.c ≤ 9223372036854775807
  nil : s.a = none → s.c = 0
  bd : ∀ x ∈ us, x ≤ 4294967295
theorem URd.below {w w' : World} {s : Sl} {us : List Nat} (h : URd w s us) (hb : Below w.heap.size w w') : URd w' s us := ⟨h.rd.below hb, h.len, h.cap, h.nil, h.bd⟩
theorem URd.at {w : World} {s : Sl} {us : List Nat} (h : URd w s us) (i : Nat) (hi : i < us.length) : ∃ b o, s.a = some ⟨b, o, none⟩ ∧ b < w.heap.size ∧ w.cell? ⟨b, o + i, none⟩ = some (.int .u32 (us[i] : Int)) := by
  rcases h.rd with h1 | ⟨b, o, h1, h2, h3⟩
  · have := congrArg List.length h1
    rw [uv_len] at this
    simp at this
    subst this
    simp at hi
  · refine ⟨b, o, h1, h2, ?_⟩
    rw [h3 i (by rw [uv_len]; exact hi)]
    simp [uv]
/-- A list of bytes that can be read. -/
structure BRd (w : World) (s : Sl) (zs : List Int) : Prop where
  rd : Rd w s.a zs
  len : zs.length = s.n
  cap : s.n ≤ s.c ∧ s.c ≤ 9223372036854775807
  nil : s.a = none → s.c = 0
theorem BRd.below {w w' : World} {s : Sl} {zs : List Int} (h : BRd w s zs) (hb : Below w.heap.size w w') : BRd w' s zs := ⟨h.rd.below hb, h.len, h.cap, h.nil⟩
/-- Where data lie. -/
structure DA where
  p1 : Sl
  p2 : Sl
  p3 : Sl
  p4 : Sl
/-- Data that can be read. -/
structure DRd (w : World) (x : DA) (d : Dat) : Prop where
  h1 : NRd w x.p1 d.ns
  h2 : URd w x.p2 d.us
  h3 : TRd w x.p3 d.ts
  h4 : BRd w x.p4 d.raw
theorem DRd.below {w w' : World} {x : DA} {d : Dat} (h : DRd w x d) (hb : Below w.heap.size w w') : DRd w' x d := ⟨h.h1.below hb, h.h2.below hb, h.h3.below hb, h.h4.below hb⟩
variable {H : Type} {enc : TypeId × Value → H} {W : World}
theorem open_texts {t : TypeId} (ht : Tryz.prog.underlying t = some (.slice 9)) {a : Option Addr} {len cap fuel : Nat} {x : DataW H × List MemPlace} (hf : DataW.trod enc Tryz.prog W 0 (fun _ => true) true fuel t [Value.slice a len cap] = some x) : ∃ ss, TRd W ⟨a, len, cap⟩ ss := by
  rcases open_strs ht Tryz.underlying9 (by kernel_rfl) hf with ⟨hcs, hx⟩ | ⟨x, l, c, m, S, hcs, _, hl, hm, hmm, hx, hcell⟩
  · simp at hcs
    obtain ⟨rfl, rfl, rfl⟩ := hcs
    exact ⟨[], .inl rfl, rfl, ⟨Nat.le_refl _, Nat.zero_le _⟩, fun _ => rfl, by simp⟩
  · simp at hcs
    obtain ⟨rfl, rfl, rfl⟩ := hcs
    have hmc : m = cap := by simpa using hmm
    refine ⟨(List.range len).map S, ?_, by simp, ⟨hl, by simp only [maxLen] at hm; exact hm⟩, by simp, ?_⟩
    · by_cases h0 : len = 0
      · left; rw [h0]; rfl
      · right
        obtain ⟨b, off, spot⟩ := x
        have hc0 := (hcell 0 (by omega)).1
        have hspot : spot = none := by simpa [Addr.add] using World.cell?_spot hc0
        subst hspot
        have hlt : b < W.heap.size := by
          have := World.block_lt_of_cell? W _ hc0
          simpa [Addr.add] using this
        refine ⟨b, off, rfl, hlt, fun i hi => ?_⟩
        have hi' : i < len := by simpa [tv] using hi
        have := (hcell i (by omega)).1
        rw [Addr.add_lit] at this
        rw [this]
        simp [tv]
    · intro s hs
      simp only [List.mem_map, List.mem_range] at hs
      obtain ⟨i, hi, rfl⟩ := hs
      have := (hcell i (by omega)).2
      simp only [maxLen] at this
      exact this
theorem slice_of {t e : TypeId} (ht : Tryz.prog.underlying t = some (.slice e)) {v : Value} {fuel : Nat} {x : DataW H × List MemPlace} (hf : DataW.trod enc Tryz.prog W 0 (fun _ => true) true fuel t [v] = some x) : ∃ a n c, v = .slice a n c := by
  rcases DataW.trod_slice ht hf with ⟨hcs, _⟩ | ⟨a, len, cap, elems, rest, n, _, hcs, _⟩
  · simp at hcs; exact ⟨_, _, _, hcs⟩
  · simp at hcs; exact ⟨_, _, _, hcs⟩
theorem open_bytesD {a : Option Addr} {len cap fuel : Nat} {x : DataW H × List MemPlace} (hf : DataW.trod enc Tryz.prog W 0 (fun _ => true) true fuel 27 [Value.slice a len cap] = some x) : ∃ zs, BRd W ⟨a, len, cap⟩ zs := by
  rcases open_ints Tryz.underlying27 Tryz.underlying5 (by kernel_rfl) hf with ⟨hcs, _⟩ | ⟨x, l, c, zs, hcs, _, hl, hm, hz, hx, hcell, hwz⟩
  · simp at hcs
    obtain ⟨rfl, rfl, rfl⟩ := hcs
    exact ⟨[], ⟨.inl rfl, by simp⟩, rfl, ⟨Nat.le_refl _, Nat.zero_le _⟩, fun _ => rfl⟩
  · simp at hcs
    obtain ⟨rfl, rfl, rfl⟩ := hcs
    have hz' : zs.length = cap := by simpa using hz
    refine ⟨zs.take len, ⟨?_, ?_⟩, by simp; omega, ⟨hl, by simp only [maxLen] at hm; exact hm⟩, by simp⟩
    · by_cases h0 : cap = 0
      · left
        have : zs = [] := List.eq_nil_of_length_eq_zero (by omega)
        rw [this]; simp
      · right
        obtain ⟨b, off, spot⟩ := x
        have hspot : spot = none := by simpa [Addr.add] using World.cell?_spot (hcell 0 (by omega))
        subst hspot
        have hlt : b < W.heap.size := by
          have := World.block_lt_of_cell? W _ (hcell 0 (by omega))
          simpa [Addr.add] using this
        refine ⟨b, off, rfl, hlt, fun i hi => ?_⟩
        have hi' : i < len := by simp at hi; omega
        have := hcell i (by simp at hi; omega)
        rw [Addr.add_lit] at this
        rw [this]
        simp [List.getD_eq_getElem?_getD, hi']
    · intro z hz2
      have := hwz z (List.mem_of_mem_take hz2)
      simp [Lit.wf, IntKind.min, IntKind.max, IntKind.bits, IntKind.signed] at this
      omega
theorem open_numsD {a : Option Addr} {len cap fuel : Nat} {x : DataW H × List MemPlace} (hf : DataW.trod enc Tryz.prog W 0 (fun _ => true) true fuel 25 [Value.slice a len cap] = some x) : ∃ us, URd W ⟨a, len, cap⟩ us := by
  rcases open_ints Tryz.underlying25 Tryz.underlying70 (by kernel_rfl) hf with ⟨hcs, _⟩ | ⟨x, l, c, zs, hcs, _, hl, hm, hz, hx, hcell, hwz⟩
  · simp at hcs
    obtain ⟨rfl, rfl, rfl⟩ := hcs
    exact ⟨[], .inl rfl, rfl, ⟨Nat.le_refl _, Nat.zero_le _⟩, fun _ => rfl, by simp⟩
  · simp at hcs
    obtain ⟨rfl, rfl, rfl⟩ := hcs
    have hz' : zs.length = cap := by simpa using hz
    have hbd : ∀ z ∈ zs, 0 ≤ z ∧ z ≤ 4294967295 := by
      intro z hz2
      have := hwz z hz2
      simp [Lit.wf, IntKind.min, IntKind.max, IntKind.bits, IntKind.signed] at this
      omega
    refine ⟨(zs.take len).map Int.toNat, ?_, by simp; omega, ⟨hl, by simp only [maxLen] at hm; exact hm⟩, by simp, ?_⟩
    · by_cases h0 : len = 0
      · left; rw [h0]; rfl
      · right
        obtain ⟨b, off, spot⟩ := x
        have hspot : spot = none := by simpa [Addr.add] using World.cell?_spot (hcell 0 (by omega))
        subst hspot
        have hlt : b < W.heap.size := by
          have := World.block_lt_of_cell? W _ (hcell 0 (by omega))
          simpa [Addr.add] using this
        refine ⟨b, off, rfl, hlt, fun i hi => ?_⟩
        have hi' : i < len := by simp [uv] at hi; omega
        have hiz : i < zs.length := by omega
        have := hcell i (by omega)
        rw [Addr.add_lit] at this
        rw [this]
        have hb := hbd zs[i] (List.getElem_mem hiz)
        simp [uv, List.getD_eq_getElem?_getD, hiz]
        omega
    · intro y hy
      obtain ⟨z, hz2, rfl⟩ := List.mem_map.1 hy
      have := hbd z (List.mem_of_mem_take hz2)
      omega
theorem list_of {α : Type} (n : Nat) (p : Nat → α → Prop) (h : ∀ i, i < n → ∃ x, p i x) : ∃ l : List α, l.length = n ∧ ∀ i (hi : i < l.length), p i l[i] := by
  induction n with
  | zero => exact ⟨[], rfl, fun i hi => absurd hi (Nat.not_lt_zero _)⟩
  | succ n ih =>
    obtain ⟨l, hl, hp⟩ := ih fun i hi => h i (by omega)
    obtain ⟨x, hx⟩ := h n (by omega)
    refine ⟨l ++ [x], by simp [hl], fun i hi => ?_⟩
    by_cases hi' : i < l.length
    · rw [List.getElem_append_left hi']; exact hp i hi'
    · have : i = n := by simp at hi; omega
      subst this
      rw [List.getElem_append_right (by omega)]
      simp [hl, hx]
theorem open_namesD {a : Option Addr} {len cap fuel : Nat} {x : DataW H × List MemPlace} (hf : DataW.trod enc Tryz.prog W 0 (fun _ => true) true fuel 24 [Value.slice a len cap] = some x) : ∃ nss, NRd W ⟨a, len, cap⟩ nss := by
  rcases open_slice1 Tryz.underlying24 (by kernel_rfl) hf with ⟨hcs, _⟩ | ⟨x, l, c, m, n, V, D, Pl, hcs, _, hl, hm, hmm, hx, hcell⟩
  · simp at hcs
    obtain ⟨rfl, rfl, rfl⟩ := hcs
    exact ⟨[], .inl rfl, rfl, ⟨Nat.le_refl _, Nat.zero_le _⟩, fun _ => rfl⟩
  · simp at hcs
    obtain ⟨rfl, rfl, rfl⟩ := hcs
    have hmc : m = cap := by simpa using hmm
    have hex : ∀ i, i < len → ∃ ss, ∃ s : Sl, V i = .slice s.a s.n s.c ∧ TRd W s ss := by
      intro i hi
      obtain ⟨a', n', c', e⟩ := slice_of (t := 45) (e := 9) Tryz.underlying45 (hcell i (by omega)).2
      have h2 := (hcell i (by omega)).2
      rw [e] at h2
      obtain ⟨ss, hss⟩ := open_texts Tryz.underlying45 h2
      exact ⟨ss, ⟨a', n', c'⟩, e, hss⟩
    obtain ⟨nss, hlen, hnss⟩ := list_of len _ hex
    refine ⟨nss, ?_, hlen, ⟨hl, by simp only [maxLen] at hm; exact hm⟩, by simp⟩
    by_cases h0 : len = 0
    · left; exact List.eq_nil_of_length_eq_zero (by omega)
    · right
      obtain ⟨b, off, spot⟩ := x
      have hc0 := (hcell 0 (by omega)).1
      have hspot : spot = none := by simpa [Addr.add] using World.cell?_spot hc0
      subst hspot
      have hlt : b < W.heap.size := by
        have := World.block_lt_of_cell? W _ hc0
        simpa [Addr.add] using this
      refine ⟨b, off, rfl, hlt, fun i hi => ?_⟩
      obtain ⟨s, e, hs⟩ := hnss i hi
      have := (hcell i (by omega)).1
      rw [Addr.add_lit, e] at this
      exact ⟨s, this, hs⟩
set_option maxRecDepth 16000 in
/-- Data that came in. -/
theorem open_data {base : Nat} {v : Value} {d : DataW H} {p : List MemPlace} (hv : Value.okWide Tryz.prog W .any base 29 v) (h : DataW.Trod enc Tryz.prog W 0 (fun _ => true) true 29 v d p) :
    ∃ (x : DA) (y : Dat), v = .agg #[.slice x.p1.a x.p1.n x.p1.c, .slice x.p2.a x.p2.n x.p2.c, .slice x.p3.a x.p3.n x.p3.c, .slice x.p4.a x.p4.n x.p4.c] ∧ DRd W x y := by
  obtain ⟨v0, v1, v2, v3, y0, y1, y2, y3, n, rfl, _, _, t0, t1, t2, t3⟩ := Joins.open_agg4 Tryz.underlying29 (by kernel_rfl) (by kernel_rfl) hv h
  obtain ⟨a0, n0, c0, rfl⟩ := slice_of (t := 24) (e := 45) Tryz.underlying24 t0
  obtain ⟨a1, n1, c1, rfl⟩ := slice_of (t := 25) (e := 70) Tryz.underlying25 t1
  obtain ⟨a2, n2, c2, rfl⟩ := slice_of (t := 26) (e := 9) Tryz.underlying26 t2
  obtain ⟨a3, n3, c3, rfl⟩ := slice_of (t := 27) (e := 5) Tryz.underlying27 t3
  obtain ⟨nss, h0⟩ := open_namesD t0
  obtain ⟨us, h1⟩ := open_numsD t1
  obtain ⟨ss, h2⟩ := open_texts Tryz.underlying26 t2
  obtain ⟨zs, h3⟩ := open_bytesD t3
  exact ⟨⟨⟨a0, n0, c0⟩, ⟨a1, n1, c1⟩, ⟨a2, n2, c2⟩, ⟨a3, n3, c3⟩⟩, ⟨nss, us, ss, zs⟩, rfl, h0, h1, h2, h3⟩
end Go.Proofs.YtfkfjodfjgjbkaaGreatDoor
namespace Go.Proofs.YtfkfjodfjgjbkaaGreatDoor
open Go.ChangeShapes Go.WideShapes Go.ChangeAt Go.RowKit
set_option linter.unusedVariables false
set_option linter.unusedSimpArgs false
/-- The value of data. -/
abbrev DA.val (x : DA) : Value := .agg #[.slice x.p1.a x.p1.n x.p1.c, .slice x.p2.a x.p2.n x.p2.c, .slice x.p3.a x.p3.n x.p3.c, .slice x.p4.a x.p4.n x.p4.c]
/-- Data in a block of their own. -/
def DBox (w : World) (b : Nat) (x : DA) : Prop :=
  w.cell? ⟨b, 0, none⟩ = some (.slice x.p1.a x.p1.n x.p1.c) ∧ w.cell? ⟨b, 1, none⟩ = some (.slice x.p2.a x.p2.n x.p2.c) ∧ w.cell? ⟨b, 2, none⟩ = some (.slice x.p3.a x.p3.n x.p3.c) ∧ w.cell? ⟨b, 3, none⟩ = some (.slice x.p4.a x.p4.n x.p4.c) ∧ b < w.heap.size
theorem DBox.new (w : World) (x : DA) : DBox (w.alloc (.cells #[.slice x.p1.a x.p1.n x.p1.c, .slice x.p2.a x.p2.n x.p2.c, .slice x.p3.a x.p3.n x.p3.c, .slice x.p4.a x.p4.n x.p4.c] 29)) w.heap.size x := by
  refine ⟨?_, ?_, ?_, ?_, by simp⟩ <;> (unfold World.cell?; rw [heap_alloc_new]; rfl)
theorem DBox.below {w w' : World} {b : Nat} {x : DA} (h : DBox w b x) (hb : Below w.heap.size w w') : DBox w' b x :=
  ⟨(hb.cell (p := ⟨b, 0, none⟩) h.2.2.2.2).trans h.1, (hb.cell (p := ⟨b, 1, none⟩) h.2.2.2.2).trans h.2.1, (hb.cell (p := ⟨b, 2, none⟩) h.2.2.2.2).trans h.2.2.1, (hb.cell (p := ⟨b, 3, none⟩) h.2.2.2.2).trans h.2.2.2.1, Nat.lt_of_lt_of_le h.2.2.2.2 hb.size⟩
/-- Data that are gone through. -/
structure Small (d : Dat) : Prop where
  n : d.ns.length ≤ 6
  u : d.us.length ≤ 12
  t : d.ts.length ≤ 300
  r : d.raw.length ≤ 65540
  nl : ∀ x ∈ d.ns, x.length ≤ 130
  tl : ∀ x ∈ d.ts, x.size ≤ 300
/-- Large, or not. -/
def LgPost (d : Dat) (w : World) (e : Ending) (w' : World) : Prop := ∃ b, e = .returned (.bool b) ∧ (b = false → Small d) ∧ Below w.heap.size w w'
theorem lg_yes {d : Dat} {w w' : World} {e : Ending} (he : e = .returned (.bool true)) (hb : Below w.heap.size w w') : LgPost d w e w' := ⟨true, he, fun h => (by cases h), hb⟩
theorem lg_no {d : Dat} {w w' : World} {e : Ending} (he : e = .returned (.bool false)) (hs : Small d) (hb : Below w.heap.size w w') : LgPost d w e w' := ⟨false, he, fun _ => hs, hb⟩
set_option maxRecDepth 100000 in
set_option maxHeartbeats 2000000 in
theorem large_any (x : DA) (d : Dat) (w : World) (h : DRd w x d) :
    Calls Tryz.prog 8 #[.agg #[.slice x.p1.a x.p1.n x.p1.c, .slice x.p2.a x.p2.n x.p2.c, .slice x.p3.a x.p3.n x.p3.c, .slice x.p4.a x.p4.n x.p4.c]] w (LgPost d w) := by
  have HB : Hid (Below w.heap.size w (w.alloc (.cells #[.slice x.p1.a x.p1.n x.p1.c, .slice x.p2.a x.p2.n x.p2.c, .slice x.p3.a x.p3.n x.p3.c, .slice x.p4.a x.p4.n x.p4.c] 29))) := (Below.refl _ _).alloc (Nat.le_refl _) _
  have HX : Hid (DBox (w.alloc (.cells #[.slice x.p1.a x.p1.n x.p1.c, .slice x.p2.a x.p2.n x.p2.c, .slice x.p3.a x.p3.n x.p3.c, .slice x.p4.a x.p4.n x.p4.c] 29)) w.heap.size x) := DBox.new w x
  have HD : Hid (DRd (w.alloc (.cells #[.slice x.p1.a x.p1.n x.p1.c, .slice x.p2.a x.p2.n x.p2.c, .slice x.p3.a x.p3.n x.p3.c, .slice x.p4.a x.p4.n x.p4.c] 29)) x d) := h.below HB.out
  clear h
  obtain ⟨⟨a1, n1, k1⟩, ⟨a2, n2, k2⟩, ⟨a3, n3, k3⟩, ⟨a4, n4, k4⟩⟩ := x
  simp only at HB HX HD ⊢
  go_enter Tryz.func8, Tryz.ntmps8
  go_upto_region 1 with fail
  generalize (w.alloc (.cells #[.slice a1 n1 k1, .slice a2 n2 k2, .slice a3 n3 k3, .slice a4 n4 k4] 29)) = W1 at *
  have c0 := HX.out.1
  have c1 := HX.out.2.1
  have c2 := HX.out.2.2.1
  have c3 := HX.out.2.2.2.1
  simp only at c0 c1 c2 c3
  by_cases h1 : (6 : Int) < (n1 : Int)
  · go_wp2_with fail
    go_ret
    exact lg_yes rfl HB.out
  by_cases h2 : (12 : Int) < (n2 : Int)
  · go_wp2_with fail
    go_ret
    exact lg_yes rfl HB.out
  by_cases h3 : (300 : Int) < (n3 : Int)
  · go_wp2_with fail
    go_ret
    exact lg_yes rfl HB.out
  by_cases h4 : (2000 : Int) < (n4 : Int) ∧ (n4 : Int) ≤ 65535
  · obtain ⟨h4a, h4b⟩ := h4
    go_wp2_with fail
    go_ret
    exact lg_yes rfl HB.out
  by_cases h5 : (65540 : Int) < (n4 : Int)
  · have h4a : (2000 : Int) < (n4 : Int) := by omega
    have h4b : ¬ (n4 : Int) ≤ 65535 := by omega
    go_wp2_with fail
    go_ret
    exact lg_yes rfl HB.out
  have hor : ¬ (2000 : Int) < (n4 : Int) ∨ ((2000 : Int) < (n4 : Int) ∧ ¬ (n4 : Int) ≤ 65535) := by omega
  clear h4
  go_cut [38] from 5 to 38 (fun s38 wx => wx = W1 ∧ s38 = .bool false)
  case first =>
    rcases hor with h | ⟨h, h'⟩
    all_goals
      go_wp2_with fail
      go_meet
      exact ⟨rfl, rfl⟩
  case rest =>
    obtain ⟨hwc, rfl⟩ := hcut
    subst hwc
    clear hor
    go_wp2_with fail
    go_loopw [3] (fun v wr => wr = wc ∧ ∃ k : Nat, k ≤ n1 ∧ v = .int .i64 (k : Int) ∧ Hid (∀ y ∈ d.ns.take k, y.length ≤ 130)) (fun v _ => n1 - (intOf v).toNat)
    case atStart => exact ⟨rfl, 0, Nat.zero_le _, rfl, by intro y hy; simp at hy⟩
    case round =>
      obtain ⟨hwr, k, hk, rfl, HF⟩ := hrel
      subst hwr
      by_cases hlt : k < n1
      · have hlt' : (k : Int) < (n1 : Int) := by omega
        have hki : k < d.ns.length := by rw [HD.out.h1.len]; exact hlt
        obtain ⟨b, o, ha, hbl, y, hy, hyr⟩ := HD.out.h1.at k hki
        simp only at ha
        subst ha
        have hyl := hyr.len
        by_cases hy2 : (130 : Int) < (y.n : Int)
        · clear hyr
          go_wp2_with fail
          go_ret
          exact lg_yes rfl HB.out
        · have HF2 : Hid (∀ y ∈ d.ns.take (k + 1), y.length ≤ 130) := by
            intro z hz
            rw [List.take_succ_eq_append_getElem hki] at hz
            simp only [List.mem_append, List.mem_singleton] at hz
            rcases hz with hz | hz
            · exact HF.out z hz
            · subst hz; omega
          clear hyr HF hyl
          go_wp2_with fail
          exact ⟨⟨by first | rfl | trivial, k + 1, by omega, by go_num, HF2⟩, by simp [intOf]; omega⟩
      · have hge : ¬ (k : Int) < (n1 : Int) := by omega
        have HF1 : Hid (∀ y ∈ d.ns, y.length ≤ 130) := by
          have := HF.out
          rwa [List.take_of_length_le (by rw [HD.out.h1.len]; show n1 ≤ k; omega)] at this
        clear HF
        go_wp2_with fail
        obtain ⟨wz, hz⟩ : ∃ z, z = wr := ⟨_, rfl⟩
        subst hz
        go_loopw [4] (fun v wr => wr = wz ∧ ∃ k : Nat, k ≤ n3 ∧ v = .int .i64 (k : Int) ∧ Hid (∀ y ∈ d.ts.take k, y.size ≤ 300)) (fun v _ => n3 - (intOf v).toNat)
        case atStart => exact ⟨rfl, 0, Nat.zero_le _, rfl, by intro y hy; simp at hy⟩
        case round =>
          obtain ⟨hwr, j, hj, rfl, HF⟩ := hrel
          subst hwr
          by_cases hjt : j < n3
          · have hjt' : (j : Int) < (n3 : Int) := by omega
            have hji : j < d.ts.length := by rw [HD.out.h3.len]; exact hjt
            obtain ⟨b, o, ha, hbl, hy⟩ := HD.out.h3.rd.at j hji
            simp only at ha
            subst ha
            have hz63 := HD.out.h3.z63 _ (List.getElem_mem hji)
            obtain ⟨s, hs⟩ : ∃ s, d.ts[j] = s := ⟨_, rfl⟩
            rw [hs] at hy hz63
            have HS : Hid (d.ts[j] = s) := hs
            clear hs
            by_cases hy2 : (300 : Int) < (s.size : Int)
            · go_wp2_with fail
              go_ret
              exact lg_yes rfl HB.out
            · have HF2 : Hid (∀ y ∈ d.ts.take (j + 1), y.size ≤ 300) := by
                intro z hz
                rw [List.take_succ_eq_append_getElem hji] at hz
                simp only [List.mem_append, List.mem_singleton] at hz
                rcases hz with hz | hz
                · exact HF.out z hz
                · subst hz; rw [HS.out]; omega
              clear HF
              go_wp2_with fail
              exact ⟨⟨by first | rfl | trivial, j + 1, by omega, by go_num, HF2⟩, by simp [intOf]; omega⟩
          · have hjge : ¬ (j : Int) < (n3 : Int) := by omega
            have HF3 : Hid (∀ y ∈ d.ts, y.size ≤ 300) := by
              have := HF.out
              rwa [List.take_of_length_le (by rw [HD.out.h3.len]; show n3 ≤ j; omega)] at this
            clear HF
            go_wp2_with fail
            go_ret
            refine lg_no rfl ⟨?_, ?_, ?_, ?_, HF1.out, HF3.out⟩ HB.out
            · rw [HD.out.h1.len]; show n1 ≤ 6; omega
            · rw [HD.out.h2.len]; show n2 ≤ 12; omega
            · rw [HD.out.h3.len]; show n3 ≤ 300; omega
            · rw [HD.out.h4.len]; show n4 ≤ 65540; omega
end Go.Proofs.YtfkfjodfjgjbkaaGreatDoor
namespace Go.Proofs.YtfkfjodfjgjbkaaGreatDoor
open Go.ChangeShapes Go.WideShapes Go.ChangeAt Go.RowKit
set_option linter.unusedVariables false
set_option linter.unusedSimpArgs false
/-- A shape's value. -/
abbrev Shp.val (s : Shp) : Value := .agg #[.int .i64 s.nn, .int .i64 s.nu, .int .i64 s.nt, .int .i64 s.nr, .int .i64 s.wd]
set_option maxRecDepth 100000 in
set_option maxHeartbeats 2000000 in
theorem of_any (t : Nat) (w : World) : Calls Tryz.prog 71 #[.int .u16 t] w fun e w' => e = .returned (.tuple #[.agg #[.int .i64 (shp t).nn, .int .i64 (shp t).nu, .int .i64 (shp t).nt, .int .i64 (shp t).nr, .int .i64 (shp t).wd], .bool (mayT t)]) ∧ Hid (Below w.heap.size w w') := by
  rcases shp_cases t with ⟨ht, e⟩ | ⟨ht, e⟩ | ⟨ht, e⟩ | ⟨ht, e⟩ | ⟨ht, e⟩ | ⟨ht, e⟩ | ⟨ht, e⟩ | ⟨ht, e⟩ | ⟨ht, e⟩
  · subst ht; rw [e]; clear e
    go_enter Tryz.func71, Tryz.ntmps71
    go_wp2_with fail
    exact bodyPost_ret (v := .tuple #[.agg #[.int .i64 0, .int .i64 0, .int .i64 0, .int .i64 4, .int .i64 0], .bool true]) (by simp [results, Tryz.results71, go_sem]) rfl ⟨rfl, (Below.refl _ _).alloc (Nat.le_refl _) _⟩
  · subst ht; rw [e]; clear e
    go_enter Tryz.func71, Tryz.ntmps71
    go_wp2_with fail
    exact bodyPost_ret (v := .tuple #[.agg #[.int .i64 0, .int .i64 0, .int .i64 0, .int .i64 16, .int .i64 0], .bool true]) (by simp [results, Tryz.results71, go_sem]) rfl ⟨rfl, (Below.refl _ _).alloc (Nat.le_refl _) _⟩
  · rw [e]; clear e
    rcases ht with rfl | rfl | rfl
    all_goals
      go_enter Tryz.func71, Tryz.ntmps71
      go_wp2_with fail
      exact bodyPost_ret (v := .tuple #[.agg #[.int .i64 1, .int .i64 0, .int .i64 0, .int .i64 0, .int .i64 0], .bool true]) (by simp [results, Tryz.results71, go_sem]) rfl ⟨rfl, (Below.refl _ _).alloc (Nat.le_refl _) _⟩
  · subst ht; rw [e]; clear e
    go_enter Tryz.func71, Tryz.ntmps71
    go_wp2_with fail
    exact bodyPost_ret (v := .tuple #[.agg #[.int .i64 2, .int .i64 5, .int .i64 0, .int .i64 0, .int .i64 4], .bool true]) (by simp [results, Tryz.results71, go_sem]) rfl ⟨rfl, (Below.refl _ _).alloc (Nat.le_refl _) _⟩
  · subst ht; rw [e]; clear e
    go_enter Tryz.func71, Tryz.ntmps71
    go_wp2_with fail
    exact bodyPost_ret (v := .tuple #[.agg #[.int .i64 1, .int .i64 1, .int .i64 0, .int .i64 0, .int .i64 2], .bool true]) (by simp [results, Tryz.results71, go_sem]) rfl ⟨rfl, (Below.refl _ _).alloc (Nat.le_refl _) _⟩
  · subst ht; rw [e]; clear e
    go_enter Tryz.func71, Tryz.ntmps71
    go_wp2_with fail
    exact bodyPost_ret (v := .tuple #[.agg #[.int .i64 1, .int .i64 3, .int .i64 0, .int .i64 0, .int .i64 2], .bool true]) (by simp [results, Tryz.results71, go_sem]) rfl ⟨rfl, (Below.refl _ _).alloc (Nat.le_refl _) _⟩
  · subst ht; rw [e]; clear e
    go_enter Tryz.func71, Tryz.ntmps71
    go_wp2_with fail
    exact bodyPost_ret (v := .tuple #[.agg #[.int .i64 0, .int .i64 0, .int .i64 (-1), .int .i64 0, .int .i64 0], .bool true]) (by simp [results, Tryz.results71, go_sem]) rfl ⟨rfl, (Below.refl _ _).alloc (Nat.le_refl _) _⟩
  · subst ht; rw [e]; clear e
    go_enter Tryz.func71, Tryz.ntmps71
    go_wp2_with fail
    exact bodyPost_ret (v := .tuple #[.agg #[.int .i64 0, .int .i64 1, .int .i64 2, .int .i64 0, .int .i64 1], .bool true]) (by simp [results, Tryz.results71, go_sem]) rfl ⟨rfl, (Below.refl _ _).alloc (Nat.le_refl _) _⟩
  · rw [e]; clear e
    obtain ⟨h1, h2, h3, h4, h5, h6, h7, h8, h9, h10⟩ := ht
    have q1 : ((t : Int) == 1) = false := by simp; omega
    have q2 : ((t : Int) == 28) = false := by simp; omega
    have q3 : ((t : Int) == 2) = false := by simp; omega
    have q4 : ((t : Int) == 5) = false := by simp; omega
    have q5 : ((t : Int) == 12) = false := by simp; omega
    have q6 : ((t : Int) == 6) = false := by simp; omega
    have q7 : ((t : Int) == 15) = false := by simp; omega
    have q8 : ((t : Int) == 33) = false := by simp; omega
    have q9 : ((t : Int) == 16) = false := by simp; omega
    have q10 : ((t : Int) == 257) = false := by simp; omega
    clear h1 h2 h3 h4 h5 h6 h7 h8 h9 h10
    by_cases hz : t = 0
    · subst hz
      go_enter Tryz.func71, Tryz.ntmps71
      go_wp2_with fail
      exact bodyPost_ret (v := .tuple #[.agg #[.int .i64 0, .int .i64 0, .int .i64 0, .int .i64 (-1), .int .i64 0], .bool false]) (by simp [results, Tryz.results71, go_sem]) rfl ⟨rfl, (Below.refl _ _).alloc (Nat.le_refl _) _⟩
    · have qz : ((t : Int) != 0) = true := by simp; omega
      by_cases ha : (t : Int) < 128
      · have hm : mayT t = true := by simp [mayT]; omega
        rw [hm]
        clear hm
        go_enter Tryz.func71, Tryz.ntmps71
        go_wp2_with fail
        exact bodyPost_ret (v := .tuple #[.agg #[.int .i64 0, .int .i64 0, .int .i64 0, .int .i64 (-1), .int .i64 0], .bool true]) (by simp [results, Tryz.results71, go_sem]) rfl ⟨rfl, (Below.refl _ _).alloc (Nat.le_refl _) _⟩
      · by_cases hb : (255 : Int) < (t : Int)
        · have hm : mayT t = true := by simp [mayT]; omega
          rw [hm]
          clear hm
          go_enter Tryz.func71, Tryz.ntmps71
          go_wp2_with fail
          exact bodyPost_ret (v := .tuple #[.agg #[.int .i64 0, .int .i64 0, .int .i64 0, .int .i64 (-1), .int .i64 0], .bool true]) (by simp [results, Tryz.results71, go_sem]) rfl ⟨rfl, (Below.refl _ _).alloc (Nat.le_refl _) _⟩
        · have hm : mayT t = false := by simp [mayT]; omega
          rw [hm]
          clear hm
          go_enter Tryz.func71, Tryz.ntmps71
          go_wp2_with fail
          exact bodyPost_ret (v := .tuple #[.agg #[.int .i64 0, .int .i64 0, .int .i64 0, .int .i64 (-1), .int .i64 0], .bool false]) (by simp [results, Tryz.results71, go_sem]) rfl ⟨rfl, (Below.refl _ _).alloc (Nat.le_refl _) _⟩
set_option maxRecDepth 100000 in
set_option maxHeartbeats 1000000 in
theorem most_any (wd : Nat) (w : World) : Calls Tryz.prog 104 #[.int .i64 wd] w fun e w' => e = .returned (.int .u32 (most wd)) ∧ w' = w := by
  by_cases h1 : wd = 1
  · subst h1
    go_enter Tryz.func104, Tryz.ntmps104
    go_wp2_with fail
    go_ret
    exact ⟨rfl, rfl⟩
  · by_cases h2 : wd = 2
    · subst h2
      go_enter Tryz.func104, Tryz.ntmps104
      go_wp2_with fail
      go_ret
      exact ⟨rfl, rfl⟩
    · have q1 : ((wd : Int) == 1) = false := by simp; omega
      have q2 : ((wd : Int) == 2) = false := by simp; omega
      have hm : most wd = 4294967295 := by unfold most; rw [if_neg h1, if_neg h2]
      rw [hm]
      clear hm
      go_enter Tryz.func104, Tryz.ntmps104
      go_wp2_with fail
      go_ret
      exact ⟨rfl, rfl⟩
set_option maxRecDepth 100000 in
set_option maxHeartbeats 2000000 in
theorem tag_any (s : ByteArray) (hs : s.size ≤ 9223372036854775807) (w : World) : Calls Tryz.prog 105 #[.string s] w fun e w' => e = .returned (.bool (tagB s)) ∧ w' = w := by
  by_cases h1 : s.size < 1
  · have HE : Hid (tagB s = false) := by show _ = _; simp [tagB]; omega
    have h1' : (s.size : Int) < 1 := by omega
    go_enter Tryz.func105, Tryz.ntmps105
    go_wp2_with fail
    go_ret
    exact ⟨by rw [HE.out]; rfl, rfl⟩
  · by_cases h2 : 15 < s.size
    · have HE : Hid (tagB s = false) := by show _ = _; simp [tagB]; omega
      have h1' : ¬ (s.size : Int) < 1 := by omega
      have h2' : (15 : Int) < (s.size : Int) := by omega
      go_enter Tryz.func105, Tryz.ntmps105
      go_wp2_with fail
      go_ret
      exact ⟨by rw [HE.out]; rfl, rfl⟩
    · have h1' : ¬ (s.size : Int) < 1 := by omega
      have h2' : ¬ (15 : Int) < (s.size : Int) := by omega
      have HT : Hid (tagB s = (nums s).all alnum) := by show _ = _; simp [tagB]; intro _; omega
      go_enter Tryz.func105, Tryz.ntmps105
      go_wp2_with fail
      go_loopw [3] (fun v wr => wr = w ∧ ∃ k : Nat, k ≤ s.size ∧ v = .int .i64 (k : Int) ∧ Hid (∀ z ∈ (nums s).take k, alnum z = true)) (fun v _ => s.size - (intOf v).toNat)
      case atStart => exact ⟨rfl, 0, Nat.zero_le _, rfl, by intro y hy; simp at hy⟩
      case round =>
        obtain ⟨hwr, k, hk, rfl, HF⟩ := hrel
        subst hwr
        by_cases hlt : k < s.size
        · have hlt' : (k : Int) < (s.size : Int) := by omega
          have hbd := nums_bd s k
          have hki : k < (nums s).length := by rw [nums_len]; exact hlt
          have hat := nums_at s k hlt
          rw [hat] at hbd
          have HA : Hid (∃ h : k < (nums s).length, (nums s)[k] = (s[k].toNat : Int)) := by
            refine ⟨hki, ?_⟩
            have : (nums s).getD k 0 = (nums s)[k] := by simp [List.getD_eq_getElem?_getD, hki]
            rw [← this, hat]
          clear hat hki
          obtain ⟨c, hc⟩ : ∃ c : Int, (s[k].toNat : Int) = c := ⟨_, rfl⟩
          rw [hc] at hbd HA
          cases hal : alnum c with
          | true =>
            have HF2 : Hid (∀ z ∈ (nums s).take (k + 1), alnum z = true) := by
              intro z hz
              obtain ⟨hin, hav⟩ := HA.out
              rw [List.take_succ_eq_append_getElem hin] at hz
              simp only [List.mem_append, List.mem_singleton] at hz
              rcases hz with hz | hz
              · exact HF.out z hz
              · subst hz; rw [hav]; exact hal
            have hcs : (97 ≤ c ∧ c ≤ 122) ∨ (c < 97 ∧ 65 ≤ c ∧ c ≤ 90) ∨ (c < 97 ∧ c < 65 ∧ 48 ≤ c ∧ c ≤ 57) := by
              simp [alnum] at hal; omega
            clear HF hal
            rcases hcs with ⟨d1, d2⟩ | ⟨d0, d1, d2⟩ | ⟨d0, d01, d1, d2⟩
            all_goals
              go_wp2_with fail
              exact ⟨⟨by first | rfl | trivial, k + 1, by omega, by go_num, HF2⟩, by simp [intOf]; omega⟩
          | false =>
            have HE : Hid (tagB s = false) := by
              show _ = _
              rw [HT.out, ← Bool.not_eq_true]
              intro hall
              obtain ⟨hin, hav⟩ := HA.out
              have := List.all_eq_true.1 hall (nums s)[k] (List.getElem_mem hin)
              rw [hav, hal] at this
              cases this
            have hcs : (c < 97 ∧ c < 65 ∧ c < 48) ∨ (c < 97 ∧ c < 65 ∧ 57 < c) ∨ (c < 97 ∧ 90 < c) ∨ 122 < c := by
              simp [alnum] at hal; omega
            clear HF hal HT
            rcases hcs with ⟨d0, d1, d2⟩ | ⟨d0, d1, d2⟩ | ⟨d0, d1⟩ | d0
            all_goals
              go_wp2_with fail
              go_ret
              exact ⟨by rw [HE.out]; rfl, rfl⟩
        · have hge : ¬ (k : Int) < (s.size : Int) := by omega
          have HE : Hid (tagB s = true) := by
            have := HF.out
            rw [List.take_of_length_le (by rw [nums_len]; omega)] at this
            show _ = _
            rw [HT.out]
            exact List.all_eq_true.2 this
          clear HF HT
          go_wp2_with fail
          go_ret
          exact ⟨by rw [HE.out]; rfl, rfl⟩
end Go.Proofs.YtfkfjodfjgjbkaaGreatDoor
namespace Go.Proofs.YtfkfjodfjgjbkaaGreatDoor
open Go.ChangeShapes Go.WideShapes Go.ChangeAt Go.RowKit
set_option linter.unusedVariables false
set_option linter.unusedSimpArgs false
def fitsG (s : Shp) (t : Nat) (d : Dat) : Bool :=
  decide (d.ns.length = s.nn) && decide (d.us.length = s.nu) && (decide (s.nt < 0) || decide ((d.ts.length : Int) = s.nt)) && (decide (0 ≤ s.nt) || decide (d.ts.length ≠ 0)) &&
  (decide (s.nr < 0) || decide ((d.raw.length : Int) = s.nr)) && d.us.all (fun n => decide (n ≤ most s.wd)) && (decide (t ≠ 16) || d.ts.all (fun s => decide (s.size ≤ 255))) && (decide (t ≠ 257) || tagB (d.ts.getD 0 ⟨#[]⟩))
/-- A shape in a block of its own. -/
def SBox (w : World) (b : Nat) (s : Shp) : Prop :=
  w.cell? ⟨b, 0, none⟩ = some (.int .i64 s.nn) ∧ w.cell? ⟨b, 1, none⟩ = some (.int .i64 s.nu) ∧ w.cell? ⟨b, 2, none⟩ = some (.int .i64 s.nt) ∧ w.cell? ⟨b, 3, none⟩ = some (.int .i64 s.nr) ∧ w.cell? ⟨b, 4, none⟩ = some (.int .i64 s.wd) ∧ b < w.heap.size
theorem SBox.new (w : World) (s : Shp) : SBox (w.alloc (.cells #[.int .i64 s.nn, .int .i64 s.nu, .int .i64 s.nt, .int .i64 s.nr, .int .i64 s.wd] 107)) w.heap.size s := by
  refine ⟨?_, ?_, ?_, ?_, ?_, by simp⟩ <;> (unfold World.cell?; rw [heap_alloc_new]; rfl)
theorem SBox.below {w w' : World} {b : Nat} {s : Shp} (h : SBox w b s) (hb : Below w.heap.size w w') : SBox w' b s :=
  ⟨(hb.cell (p := ⟨b, 0, none⟩) h.2.2.2.2.2).trans h.1, (hb.cell (p := ⟨b, 1, none⟩) h.2.2.2.2.2).trans h.2.1, (hb.cell (p := ⟨b, 2, none⟩) h.2.2.2.2.2).trans h.2.2.1, (hb.cell (p := ⟨b, 3, none⟩) h.2.2.2.2.2).trans h.2.2.2.1, (hb.cell (p := ⟨b, 4, none⟩) h.2.2.2.2.2).trans h.2.2.2.2.1, Nat.lt_of_lt_of_le h.2.2.2.2.2 hb.size⟩
/-- A shape and data, each in a block of its own. -/
def FtSt (w W : World) (b : Nat) (s : Shp) (x : DA) (d : Dat) : Prop := SBox W b s ∧ DBox W (b + 1) x ∧ DRd W x d ∧ Below w.heap.size w W
theorem FtSt.go {w W W' : World} {b : Nat} {s : Shp} {x : DA} {d : Dat} (h : FtSt w W b s x d) (hb : Below W.heap.size W W') : FtSt w W' b s x d :=
  ⟨h.1.below hb, h.2.1.below hb, h.2.2.1.below hb, h.2.2.2.trans (hb.mono h.2.2.2.size)⟩
theorem FtSt.new (w : World) (s : Shp) (x : DA) (d : Dat) (h : DRd w x d) : FtSt w ((w.alloc (.cells #[.int .i64 s.nn, .int .i64 s.nu, .int .i64 s.nt, .int .i64 s.nr, .int .i64 s.wd] 107)).alloc (.cells #[.slice x.p1.a x.p1.n x.p1.c, .slice x.p2.a x.p2.n x.p2.c, .slice x.p3.a x.p3.n x.p3.c, .slice x.p4.a x.p4.n x.p4.c] 29)) w.heap.size s x d := by
  have hb1 : Below w.heap.size w (w.alloc (.cells #[.int .i64 s.nn, .int .i64 s.nu, .int .i64 s.nt, .int .i64 s.nr, .int .i64 s.wd] 107)) := (Below.refl _ _).alloc (Nat.le_refl _) _
  have HX := SBox.new w s
  have hx1 := h.below hb1
  obtain ⟨W0, hW0⟩ : ∃ W, W = w.alloc (.cells #[.int .i64 s.nn, .int .i64 s.nu, .int .i64 s.nt, .int .i64 s.nr, .int .i64 s.wd] 107) := ⟨_, rfl⟩
  have hs0 : W0.heap.size = w.heap.size + 1 := by rw [hW0]; simp
  rw [← hW0] at hb1 HX hx1 ⊢
  have hb2 : Below W0.heap.size W0 (W0.alloc (.cells #[.slice x.p1.a x.p1.n x.p1.c, .slice x.p2.a x.p2.n x.p2.c, .slice x.p3.a x.p3.n x.p3.c, .slice x.p4.a x.p4.n x.p4.c] 29)) := (Below.refl _ _).alloc (Nat.le_refl _) _
  have HY := DBox.new W0 x
  rw [hs0] at HY
  exact ⟨HX.below hb2, HY, hx1.below hb2, hb1.trans (hb2.mono hb1.size)⟩
set_option maxRecDepth 100000 in
set_option maxHeartbeats 4000000 in
theorem fits_any (s : Shp) (t : Nat) (ht : t = 257 → s.nt = 2) (x : DA) (d : Dat) (w : World) (h : DRd w x d) :
    Calls Tryz.prog 72 #[.int .u16 t, .agg #[.int .i64 s.nn, .int .i64 s.nu, .int .i64 s.nt, .int .i64 s.nr, .int .i64 s.wd], .agg #[.slice x.p1.a x.p1.n x.p1.c, .slice x.p2.a x.p2.n x.p2.c, .slice x.p3.a x.p3.n x.p3.c, .slice x.p4.a x.p4.n x.p4.c]] w fun e w' => e = .returned (.bool (fitsG s t d)) ∧ Hid (Below w.heap.size w w') := by
  have H : Hid (FtSt w ((w.alloc (.cells #[.int .i64 s.nn, .int .i64 s.nu, .int .i64 s.nt, .int .i64 s.nr, .int .i64 s.wd] 107)).alloc (.cells #[.slice x.p1.a x.p1.n x.p1.c, .slice x.p2.a x.p2.n x.p2.c, .slice x.p3.a x.p3.n x.p3.c, .slice x.p4.a x.p4.n x.p4.c] 29)) w.heap.size s x d) := FtSt.new w s x d h
  have l1 := h.h1.len
  have l2 := h.h2.len
  have l3 := h.h3.len
  have l4 := h.h4.len
  have HC : Hid (x.p2.n ≤ 9223372036854775807 ∧ x.p3.n ≤ 9223372036854775807) := ⟨Nat.le_trans h.h2.cap.1 h.h2.cap.2, Nat.le_trans h.h3.cap.1 h.h3.cap.2⟩
  clear h
  obtain ⟨nn, nu, nt, nr, wd⟩ := s
  obtain ⟨⟨a1, n1, k1⟩, ⟨a2, n2, k2⟩, ⟨a3, n3, k3⟩, ⟨a4, n4, k4⟩⟩ := x
  simp only at H l1 l2 l3 l4 ht HC ⊢
  have HG : Hid (fitsG ⟨nn, nu, nt, nr, wd⟩ t d = (decide (n1 = nn) && decide (n2 = nu) && (decide (nt < 0) || decide ((n3 : Int) = nt)) && (decide (0 ≤ nt) || decide (n3 ≠ 0)) && (decide (nr < 0) || decide ((n4 : Int) = nr)) && d.us.all (fun n => decide (n ≤ most wd)) && (decide (t ≠ 16) || d.ts.all (fun s => decide (s.size ≤ 255))) && (decide (t ≠ 257) || tagB (d.ts.getD 0 ⟨#[]⟩)))) := by
    show _ = _
    unfold fitsG
    rw [l1, l2, l3, l4]
  have HL : Hid (d.us.length = n2 ∧ d.ts.length = n3) := ⟨l2, l3⟩
  have HT : Hid (t = 257 → nt = 2) := ht
  clear l1 l2 l3 l4 ht
  obtain ⟨R, hR⟩ : ∃ R, fitsG ⟨nn, nu, nt, nr, wd⟩ t d = R := ⟨_, rfl⟩
  rw [hR]
  rw [hR] at HG
  clear hR
  go_enter Tryz.func72, Tryz.ntmps72
  go_upto_region 1 with fail
  generalize ((w.alloc (.cells #[.int .i64 nn, .int .i64 nu, .int .i64 nt, .int .i64 nr, .int .i64 wd] 107)).alloc (.cells #[.slice a1 n1 k1, .slice a2 n2 k2, .slice a3 n3 k3, .slice a4 n4 k4] 29)) = W1 at *
  obtain ⟨b, hb⟩ : ∃ b, b = w.heap.size := ⟨_, rfl⟩
  rw [← hb] at H ⊢
  have Hb : Hid (b = w.heap.size) := hb
  clear hb
  have s0 := H.out.1.1
  have s1 := H.out.1.2.1
  have s2 := H.out.1.2.2.1
  have s3 := H.out.1.2.2.2.1
  have s4 := H.out.1.2.2.2.2.1
  have c0 := H.out.2.1.1
  have c1 := H.out.2.1.2.1
  have c2 := H.out.2.1.2.2.1
  have c3 := H.out.2.1.2.2.2.1
  simp only at s0 s1 s2 s3 s4 c0 c1 c2 c3
  by_cases e1 : n1 = nn
  case neg =>
    have HE : Hid (R = false) := by
      have := HG.out
      rw [decide_eq_false e1] at this
      show R = false
      simpa using this
    have q : ((n1 : Int) != (nn : Int)) = true := by simp; omega
    clear HG
    go_wp2_with fail
    go_ret
    exact ⟨by rw [HE.out]; rfl, H.out.2.2.2⟩
  subst e1
  by_cases e2 : n2 = nu
  case neg =>
    have HE : Hid (R = false) := by
      have := HG.out
      rw [decide_eq_false e2] at this
      show R = false
      simpa using this
    have q : ((n2 : Int) != (nu : Int)) = true := by simp; omega
    clear HG
    go_wp2_with fail
    go_ret
    exact ⟨by rw [HE.out]; rfl, H.out.2.2.2⟩
  subst e2
  by_cases e3 : nt < 0 ∨ (n3 : Int) = nt
  case neg =>
    have HE : Hid (R = false) := by
      have := HG.out
      rw [decide_eq_false (show ¬ nt < 0 by omega), decide_eq_false (show ¬ (n3 : Int) = nt by omega)] at this
      show R = false
      simpa using this
    have q0 : 0 ≤ nt := by omega
    have q : ((n3 : Int) != nt) = true := by simp; omega
    clear HG
    go_wp2_with fail
    go_ret
    exact ⟨by rw [HE.out]; rfl, H.out.2.2.2⟩
  by_cases e4 : nt < 0 ∧ n3 = 0
  case pos =>
    obtain ⟨e4a, e4b⟩ := e4
    subst e4b
    have HE : Hid (R = false) := by
      have := HG.out
      rw [decide_eq_false (show ¬ 0 ≤ nt by omega)] at this
      show R = false
      simpa using this
    have q0 : ¬ 0 ≤ nt := by omega
    clear HG e3
    go_wp2_with fail
    go_ret
    exact ⟨by rw [HE.out]; rfl, H.out.2.2.2⟩
  by_cases e5 : nr < 0 ∨ (n4 : Int) = nr
  case neg =>
    have HE : Hid (R = false) := by
      have := HG.out
      rw [decide_eq_false (show ¬ nr < 0 by omega), decide_eq_false (show ¬ (n4 : Int) = nr by omega)] at this
      show R = false
      simpa using this
    have p0 : 0 ≤ nr := by omega
    have p : ((n4 : Int) != nr) = true := by simp; omega
    have hor : (nt < 0 ∧ ((n3 : Int) == 0) = false ∧ ¬ 0 ≤ nt) ∨ (0 ≤ nt ∧ ¬ nt < 0 ∧ ((n3 : Int) != nt) = false) := by
      by_cases hn : nt < 0
      · exact .inl ⟨hn, by simp; omega, by omega⟩
      · exact .inr ⟨by omega, hn, by simp; omega⟩
    clear HG e3 e4 e5
    rcases hor with ⟨o1, o2, o3⟩ | ⟨o1, o2, o3⟩
    all_goals
      go_wp2_with fail
      go_ret
      exact ⟨by rw [HE.out]; rfl, H.out.2.2.2⟩
  have hor : (nt < 0 ∧ ((n3 : Int) == 0) = false ∧ ¬ 0 ≤ nt) ∨ (0 ≤ nt ∧ ¬ nt < 0 ∧ ((n3 : Int) != nt) = false) := by
    by_cases hn : nt < 0
    · exact .inl ⟨hn, by simp; omega, by omega⟩
    · exact .inr ⟨by omega, hn, by simp; omega⟩
  have hor2 : (nr < 0 ∧ ¬ 0 ≤ nr) ∨ (0 ≤ nr ∧ ((n4 : Int) != nr) = false) := by
    by_cases hn : nr < 0
    · exact .inl ⟨hn, by omega⟩
    · exact .inr ⟨by omega, by simp; omega⟩
  have HG2 : Hid (R = (d.us.all (fun n => decide (n ≤ most wd)) && (decide (t ≠ 16) || d.ts.all (fun s => decide (s.size ≤ 255))) && (decide (t ≠ 257) || tagB (d.ts.getD 0 ⟨#[]⟩)))) := by
    have := HG.out
    show R = _
    rw [this]
    have z1 : (decide (nt < 0) || decide ((n3 : Int) = nt)) = true := by simpa using e3
    have z2 : (decide (0 ≤ nt) || decide (n3 ≠ 0)) = true := by
      simp
      omega
    have z3 : (decide (nr < 0) || decide ((n4 : Int) = nr)) = true := by simpa using e5
    rw [z1, z2, z3]
    simp
  have H3 : Hid (t = 257 → 0 < n3) := by
    intro h257
    have := HT.out h257
    omega
  clear HG e3 e4 e5 HT
  go_cut [59] from 9 to 59 (fun s59 wx => wx = W1 ∧ s59 = .bool false)
  case first =>
    rcases hor with ⟨o1, o2, o3⟩ | ⟨o1, o2, o3⟩ <;> rcases hor2 with ⟨o4, o5⟩ | ⟨o4, o5⟩
    all_goals
      go_wp2_with fail
      go_meet
      exact ⟨rfl, rfl⟩
  case rest =>
    obtain ⟨hwc, rfl⟩ := hcut
    subst hwc
    clear hor hor2 s0 s1 s2 s3 s4 c0 c1 c2 c3
    have hc2 := HC.out.1
    have hc3 := HC.out.2
    go_wp2_with fail
    go_loopw [7] (fun v wr => ∃ k : Nat, k ≤ n2 ∧ v = .int .i64 (k : Int) ∧ Hid (FtSt w wr b ⟨n1, n2, nt, nr, wd⟩ ⟨⟨a1, n1, k1⟩, ⟨a2, n2, k2⟩, ⟨a3, n3, k3⟩, ⟨a4, n4, k4⟩⟩ d) ∧ Hid (∀ y ∈ d.us.take k, y ≤ most wd)) (fun v _ => n2 - (intOf v).toNat)
    case atStart => exact ⟨0, Nat.zero_le _, rfl, H, by intro y hy; simp at hy⟩
    case round =>
      obtain ⟨k, hk, rfl, HI, HF⟩ := hrel
      clear H
      have s4 := HI.out.1.2.2.2.2.1
      have c1 := HI.out.2.1.2.1
      simp only at s4 c1
      by_cases hlt : k < n2
      · have hlt' : (k : Int) < (n2 : Int) := by omega
        have hki : k < d.us.length := by rw [HL.out.1]; exact hlt
        obtain ⟨B1, o1, ha1, hl1, hz1⟩ := HI.out.2.2.1.h2.at k hki
        simp only at ha1
        subst ha1
        have HU : Hid (∃ h : k < d.us.length, d.us[k] = d.us[k]) := ⟨hki, rfl⟩
        obtain ⟨u, hu⟩ : ∃ u, d.us[k] = u := ⟨_, rfl⟩
        rw [hu] at hz1
        have HU2 : Hid (∀ h : k < d.us.length, d.us[k] = u) := fun _ => hu
        clear hu
        have KM : Hid (∀ W, Calls Tryz.prog 104 #[.int .i64 wd] W fun e w' => e = .returned (.int .u32 (most wd)) ∧ w' = W) := fun W => most_any wd W
        have HM : Hid (most wd = most wd) := (show _ = _ from rfl)
        obtain ⟨M, hM⟩ : ∃ M, most wd = M := ⟨_, rfl⟩
        rw [hM] at KM
        have HM2 : Hid (most wd = M) := hM
        clear hM HM
        by_cases hgt : M < u
        · have HE : Hid (R = false) := by
            have := HG2.out
            have hno : d.us.all (fun n => decide (n ≤ most wd)) = false := by
              rw [← Bool.not_eq_true]
              intro hall
              have := List.all_eq_true.1 hall d.us[k] (List.getElem_mem hki)
              rw [HU2.out hki, HM2.out] at this
              simp at this
              omega
            rw [hno] at this
            show R = false
            simpa using this
          have hgt' : (M : Int) < (u : Int) := by omega
          clear HG2 HU HU2
          go_wp2_with fail
          go_quiet (first
            | (go_at_call 104; exact Calls.quiet_of_same (KM.out _)))
          have H2 : Hid (FtSt w (wr.drewN nq) b ⟨n1, n2, nt, nr, wd⟩ ⟨⟨a1, n1, k1⟩, ⟨some ⟨B1, o1, none⟩, n2, k2⟩, ⟨a3, n3, k3⟩, ⟨a4, n4, k4⟩⟩ d) := HI.out.go ⟨rfl, rfl, rfl, Nat.le_refl _, fun _ _ => rfl⟩
          clear s4 c1 hz1 HI
          generalize wr.drewN nq = Wq at *
          go_wp2_with fail
          go_ret
          exact ⟨by rw [HE.out]; rfl, H2.out.2.2.2⟩
        · have HF2 : Hid (∀ y ∈ d.us.take (k + 1), y ≤ most wd) := by
            intro y hy
            rw [List.take_succ_eq_append_getElem hki] at hy
            simp only [List.mem_append, List.mem_singleton] at hy
            rcases hy with hy | hy
            · exact HF.out y hy
            · subst hy; rw [HU2.out hki, HM2.out]; omega
          have hgt' : ¬ (M : Int) < (u : Int) := by omega
          clear HF HU HU2
          go_wp2_with fail
          go_quiet (first
            | (go_at_call 104; exact Calls.quiet_of_same (KM.out _)))
          have H2 : Hid (FtSt w (wr.drewN nq) b ⟨n1, n2, nt, nr, wd⟩ ⟨⟨a1, n1, k1⟩, ⟨some ⟨B1, o1, none⟩, n2, k2⟩, ⟨a3, n3, k3⟩, ⟨a4, n4, k4⟩⟩ d) := HI.out.go ⟨rfl, rfl, rfl, Nat.le_refl _, fun _ _ => rfl⟩
          clear s4 c1 hz1 HI KM
          generalize wr.drewN nq = Wq at *
          go_wp2_with fail
          exact ⟨⟨k + 1, by omega, by go_num, H2, HF2⟩, by simp [intOf]; omega⟩
      · have hge : ¬ (k : Int) < (n2 : Int) := by omega
        have HG3 : Hid (R = ((decide (t ≠ 16) || d.ts.all (fun s => decide (s.size ≤ 255))) && (decide (t ≠ 257) || tagB (d.ts.getD 0 ⟨#[]⟩)))) := by
          have hall := HF.out
          rw [List.take_of_length_le (by rw [HL.out.1]; omega)] at hall
          have := HG2.out
          rw [List.all_eq_true.2 (fun y hy => decide_eq_true (hall y hy))] at this
          show R = _
          rw [this]; simp
        clear HG2 HF s4
        go_wp2_with fail
        obtain ⟨wz, hz⟩ : ∃ z, z = wr := ⟨_, rfl⟩
        subst hz
        clear c1
        go_loopw [8] (fun v wr => wr = wz ∧ ∃ j : Nat, j ≤ n3 ∧ v = .int .i64 (j : Int) ∧ Hid (∀ y ∈ d.ts.take j, y.size ≤ 255)) (fun v _ => n3 - (intOf v).toNat)
        case atStart => exact ⟨rfl, 0, Nat.zero_le _, rfl, by intro y hy; simp at hy⟩
        case round =>
          obtain ⟨hwr, j, hj, rfl, HF⟩ := hrel
          subst hwr
          have c2 := HI.out.2.1.2.2.1
          simp only at c2
          by_cases h16 : t = 16
          · subst h16
            by_cases hjt : j < n3
            · have hjt' : (j : Int) < (n3 : Int) := by omega
              have hji : j < d.ts.length := by rw [HL.out.2]; exact hjt
              obtain ⟨B1, o1, ha1, hl1, hz1⟩ := HI.out.2.2.1.h3.rd.at j hji
              simp only at ha1
              subst ha1
              have hz63 := HI.out.2.2.1.h3.z63 _ (List.getElem_mem hji)
              obtain ⟨s, hs⟩ : ∃ s, d.ts[j] = s := ⟨_, rfl⟩
              rw [hs] at hz1 hz63
              have HS : Hid (∀ h : j < d.ts.length, d.ts[j] = s) := fun _ => hs
              clear hs
              by_cases hgt : 255 < s.size
              · have HE : Hid (R = false) := by
                  have := HG3.out
                  have hno : d.ts.all (fun s => decide (s.size ≤ 255)) = false := by
                    rw [← Bool.not_eq_true]
                    intro hall
                    have := List.all_eq_true.1 hall d.ts[j] (List.getElem_mem hji)
                    rw [HS.out hji] at this
                    simp at this
                    omega
                  rw [hno] at this
                  show R = false
                  simpa using this
                have hgt' : (255 : Int) < (s.size : Int) := by omega
                clear HG3 HS HF
                go_wp2_with fail
                go_ret
                exact ⟨by rw [HE.out]; rfl, HI.out.2.2.2⟩
              · have HF2 : Hid (∀ y ∈ d.ts.take (j + 1), y.size ≤ 255) := by
                  intro y hy
                  rw [List.take_succ_eq_append_getElem hji] at hy
                  simp only [List.mem_append, List.mem_singleton] at hy
                  rcases hy with hy | hy
                  · exact HF.out y hy
                  · subst hy; rw [HS.out hji]; omega
                have hgt' : ¬ (255 : Int) < (s.size : Int) := by omega
                clear HF HS HG3
                go_wp2_with fail
                exact ⟨⟨by first | rfl | trivial, j + 1, by omega, by go_num, HF2⟩, by simp [intOf]; omega⟩
            · have hjge : ¬ (j : Int) < (n3 : Int) := by omega
              have HE : Hid (R = true) := by
                have hall := HF.out
                rw [List.take_of_length_le (by rw [HL.out.2]; omega)] at hall
                have := HG3.out
                rw [List.all_eq_true.2 (fun y hy => decide_eq_true (hall y hy))] at this
                show R = true
                rw [this]; simp
              clear HG3 HF
              go_wp2_with fail
              go_ret
              exact ⟨by rw [HE.out]; rfl, HI.out.2.2.2⟩
          · have q16 : ((t : Int) == 16) = false := by simp; omega
            have HG4 : Hid (R = (decide (t ≠ 257) || tagB (d.ts.getD 0 ⟨#[]⟩))) := by
              have := HG3.out
              rw [decide_eq_true h16] at this
              show R = _
              rw [this]; simp
            clear HG3 HF
            by_cases h257 : t = 257
            · subst h257
              have h3 : 0 < n3 := H3.out rfl
              have hji : 0 < d.ts.length := by rw [HL.out.2]; exact h3
              obtain ⟨B1, o1, ha1, hl1, hz1⟩ := HI.out.2.2.1.h3.rd.at 0 hji
              simp only at ha1
              subst ha1
              have hz63 := HI.out.2.2.1.h3.z63 _ (List.getElem_mem hji)
              obtain ⟨s, hs⟩ : ∃ s, d.ts[0] = s := ⟨_, rfl⟩
              rw [hs] at hz1 hz63
              have HE : Hid (R = tagB s) := by
                have := HG4.out
                show R = _
                rw [this, ← hs]
                simp [List.getD_eq_getElem?_getD, hji]
              clear hs HG4
              have h3' : (0 : Int) < (n3 : Int) := by omega
              rw [Nat.add_zero] at hz1
              go_wp2_with fail
              refine (tag_any s hz63 _).mono ?_
              rintro e Wt ⟨rfl, rfl⟩
              go_wp2_with fail
              go_ret
              exact ⟨by rw [HE.out]; rfl, HI.out.2.2.2⟩
            · have q257 : ((t : Int) != 257) = true := by simp; omega
              have HE : Hid (R = true) := by
                have := HG4.out
                show R = true
                rw [this, decide_eq_true h257]; rfl
              clear HG4
              go_wp2_with fail
              go_ret
              exact ⟨by rw [HE.out]; rfl, HI.out.2.2.2⟩
end Go.Proofs.YtfkfjodfjgjbkaaGreatDoor
namespace Go.Proofs.YtfkfjodfjgjbkaaGreatDoor
open Go.ChangeShapes Go.WideShapes Go.ChangeAt Go.RowKit
set_option linter.unusedVariables false
set_option linter.unusedSimpArgs false
theorem tsz_snoc (t : Nat) (l : List ByteArray) (s : ByteArray) : tsz t (l ++ [s]) = tsz t l + s.size + (if t = 16 ∨ l = [] then 1 else 0) := by
  unfold tsz
  by_cases h : t = 16
  · rw [if_pos h, if_pos h, if_pos (.inl h)]
    simp [nby, nums_len]; omega
  · rw [if_neg h, if_neg h]
    cases l with
    | nil => simp
    | cons x r => simp [h, nums_len]; omega
theorem sum_snoc (l : List Nat) (n : Nat) : (l ++ [n]).sum = l.sum + n := by simp
theorem sum_take (l : List Nat) (k : Nat) : (l.take k).sum ≤ l.sum := by
  induction l generalizing k with
  | nil => simp
  | cons x l ih =>
    cases k with
    | zero => simp
    | succ k => simp; exact ih k
theorem tsz_take (t : Nat) (l : List ByteArray) (k : Nat) : tsz t (l.take k) ≤ tsz t l := by
  have step : ∀ n, tsz t (l.take (l.length - n)) ≤ tsz t l := by
    intro n
    induction n with
    | zero => simp
    | succ n ih =>
      by_cases h : l.length - n = 0
      · rw [show l.length - (n + 1) = l.length - n by omega]; exact ih
      · have e : l.length - n = (l.length - (n + 1)) + 1 := by omega
        have hlt : l.length - (n + 1) < l.length := by omega
        rw [e, List.take_succ_eq_append_getElem hlt, tsz_snoc] at ih
        omega
  by_cases hk : k ≤ l.length
  · have := step (l.length - k)
    rwa [show l.length - (l.length - k) = k by omega] at this
  · rw [List.take_of_length_le (by omega)]; exact Nat.le_refl _
def sizesG (s : Shp) (t : Nat) (d : Dat) : Nat := d.raw.length + d.us.length * s.wd + (d.ns.map nsz).sum + tsz t d.ts
set_option maxRecDepth 100000 in
set_option maxHeartbeats 4000000 in
theorem sizes_any (s : Shp) (t : Nat) (hwd : s.wd ≤ 4) (x : DA) (d : Dat) (w : World) (h : DRd w x d) (hB : sizesG s t d ≤ 1000000000000000) :
    Calls Tryz.prog 74 #[.int .u16 t, .agg #[.int .i64 s.nn, .int .i64 s.nu, .int .i64 s.nt, .int .i64 s.nr, .int .i64 s.wd], .agg #[.slice x.p1.a x.p1.n x.p1.c, .slice x.p2.a x.p2.n x.p2.c, .slice x.p3.a x.p3.n x.p3.c, .slice x.p4.a x.p4.n x.p4.c]] w fun e w' => e = .returned (.int .i64 (sizesG s t d : Nat)) ∧ Hid (Below w.heap.size w w') := by
  have H : Hid (FtSt w ((w.alloc (.cells #[.int .i64 s.nn, .int .i64 s.nu, .int .i64 s.nt, .int .i64 s.nr, .int .i64 s.wd] 107)).alloc (.cells #[.slice x.p1.a x.p1.n x.p1.c, .slice x.p2.a x.p2.n x.p2.c, .slice x.p3.a x.p3.n x.p3.c, .slice x.p4.a x.p4.n x.p4.c] 29)) w.heap.size s x d) := FtSt.new w s x d h
  have l1 := h.h1.len
  have l2 := h.h2.len
  have l3 := h.h3.len
  have l4 := h.h4.len
  have hc1 : x.p1.n ≤ 9223372036854775807 := Nat.le_trans h.h1.cap.1 h.h1.cap.2
  have hc3 : x.p3.n ≤ 9223372036854775807 := Nat.le_trans h.h3.cap.1 h.h3.cap.2
  clear h
  obtain ⟨nn, nu, nt, nr, wd⟩ := s
  obtain ⟨⟨a1, n1, k1⟩, ⟨a2, n2, k2⟩, ⟨a3, n3, k3⟩, ⟨a4, n4, k4⟩⟩ := x
  simp only at H l1 l2 l3 l4 hwd hc1 hc3 ⊢
  obtain ⟨Z, hZ⟩ : ∃ Z, sizesG ⟨nn, nu, nt, nr, wd⟩ t d = Z := ⟨_, rfl⟩
  rw [hZ] at hB ⊢
  have HZ : Hid (Z = n4 + n2 * wd + (d.ns.map nsz).sum + tsz t d.ts) := by
    show Z = _
    rw [← hZ]
    unfold sizesG
    rw [l4, l2]
  have HL : Hid (d.ns.length = n1 ∧ d.ts.length = n3) := ⟨l1, l3⟩
  clear hZ l1 l2 l3 l4
  obtain ⟨P, hP⟩ : ∃ P, n2 * wd = P := ⟨_, rfl⟩
  rw [hP] at HZ
  have hPi : (n2 : Int) * (wd : Int) = (P : Int) := by rw [← hP]; simp
  clear hP
  have hPb : n4 + P ≤ 1000000000000000 := by have := HZ.out; omega
  have w1 : IntKind.i64.wrap ((n2 : Int) * (wd : Int)) = (P : Int) := by rw [hPi, IntKind.wrap_i64]; omega
  have w2 : IntKind.i64.wrap ((n4 : Int) + (P : Int)) = ((n4 + P : Nat) : Int) := by rw [IntKind.wrap_i64]; omega
  clear hPi
  go_enter Tryz.func74, Tryz.ntmps74
  go_upto_region 1 with fail
  generalize ((w.alloc (.cells #[.int .i64 nn, .int .i64 nu, .int .i64 nt, .int .i64 nr, .int .i64 wd] 107)).alloc (.cells #[.slice a1 n1 k1, .slice a2 n2 k2, .slice a3 n3 k3, .slice a4 n4 k4] 29)) = W1 at *
  obtain ⟨b, hb⟩ : ∃ b, b = w.heap.size := ⟨_, rfl⟩
  rw [← hb] at H ⊢
  have Hb : Hid (b = w.heap.size) := hb
  clear hb
  have s4 := H.out.1.2.2.2.2.1
  have c1 := H.out.2.1.2.1
  have c3 := H.out.2.1.2.2.2.1
  simp only at s4 c1 c3
  go_wp2_with fail
  clear s4 c1 c3
  go_loopw [7, 8] (fun v i wr => wr = W1 ∧ ∃ k A : Nat, k ≤ n1 ∧ i = .int .i64 (k : Int) ∧ v = .int .i64 (A : Int) ∧ A ≤ Z ∧ Hid (A = n4 + P + ((d.ns.map nsz).take k).sum)) (fun _ i _ => n1 - (intOf i).toNat)
  case atStart => exact ⟨rfl, 0, n4 + P, Nat.zero_le _, rfl, by simp, by have := HZ.out; omega, by show _ = _; simp⟩
  case round =>
    obtain ⟨hwr, k, A, hk, rfl, rfl, hA, HA⟩ := hrel
    subst hwr
    have c0 := H.out.2.1.1
    simp only at c0
    by_cases hlt : k < n1
    · have hlt' : (k : Int) < (n1 : Int) := by omega
      have hki : k < d.ns.length := by rw [HL.out.1]; exact hlt
      obtain ⟨B1, o1, ha1, hl1, z1, hz1, hr1⟩ := H.out.2.2.1.h1.at k hki
      simp only at ha1
      subst ha1
      have hsum : ((d.ns.map nsz).take (k + 1)).sum = ((d.ns.map nsz).take k).sum + nsz d.ns[k] := by
        rw [List.take_succ_eq_append_getElem (by simp; exact hki), sum_snoc]; simp
      have hle := sum_take (d.ns.map nsz) (k + 1)
      have hZ := HZ.out
      have hA2 := HA.out
      have HA2 : Hid (A + nsz d.ns[k] = n4 + P + ((d.ns.map nsz).take (k + 1)).sum) := by show _ = _; omega
      have hb2 : A + nsz d.ns[k] ≤ Z := by have := HA2.out; omega
      have KS : Hid (∀ W, W = wr → Calls Tryz.prog 107 #[.slice z1.a z1.n z1.c] W fun e w' => e = .returned (.int .i64 (nsz d.ns[k])) ∧ w' = W) := by
        intro W e
        subst e
        exact refsize_any z1.a z1.n z1.c d.ns[k] W hr1.rd hr1.len (by omega)
      clear hsum hle hZ hA2 hr1 HA
      generalize nsz d.ns[k] = q at *
      generalize z1.a = za at *
      generalize z1.n = zn at *
      generalize z1.c = zc at *
      have w3 : IntKind.i64.wrap ((A : Int) + (q : Int)) = ((A + q : Nat) : Int) := by rw [IntKind.wrap_i64]; omega
      go_wp2_with fail
      refine (KS.out _ rfl).mono ?_
      rintro e Wx ⟨rfl, rfl⟩
      go_wp2_with fail
      refine ⟨⟨by first | rfl | trivial, k + 1, A + q, by omega, by go_num, by go_num, hb2, HA2⟩, ?_⟩
      simp [intOf]; omega
    · have hge : ¬ (k : Int) < (n1 : Int) := by omega
      have HA1 : Hid (A = n4 + P + (d.ns.map nsz).sum) := by
        have := HA.out
        rwa [List.take_of_length_le (by simp; rw [HL.out.1]; omega)] at this
      clear HA
      go_wp2_with fail
      obtain ⟨wz, hz⟩ : ∃ z, z = wr := ⟨_, rfl⟩
      subst hz
      clear c0
      go_loopw [7, 9] (fun v i wr => wr = wz ∧ ∃ j B : Nat, j ≤ n3 ∧ i = .int .i64 (j : Int) ∧ v = .int .i64 (B : Int) ∧ B ≤ Z ∧ Hid (B = A + tsz t (d.ts.take j))) (fun _ i _ => n3 - (intOf i).toNat)
      case atStart => exact ⟨rfl, 0, A, Nat.zero_le _, rfl, rfl, hA, by show _ = _; simp [tsz, nby]⟩
      case round =>
        obtain ⟨hwr, j, B, hj, rfl, rfl, hB2, HBB⟩ := hrel
        subst hwr
        have c2 := H.out.2.1.2.2.1
        simp only at c2
        by_cases hjt : j < n3
        · have hjt' : (j : Int) < (n3 : Int) := by omega
          have hji : j < d.ts.length := by rw [HL.out.2]; exact hjt
          obtain ⟨B1, o1, ha1, hl1, hz1⟩ := H.out.2.2.1.h3.rd.at j hji
          simp only at ha1
          subst ha1
          have hsn := tsz_snoc t (d.ts.take j) d.ts[j]
          rw [← List.take_succ_eq_append_getElem hji] at hsn
          have hle := tsz_take t d.ts (j + 1)
          have hZ := HZ.out
          have hA1 := HA1.out
          have hBv := HBB.out
          have hnil : d.ts.take j = [] ↔ j = 0 := by
            constructor
            · intro e
              have := congrArg List.length e
              rw [List.length_take] at this
              simp only [List.length_nil] at this
              omega
            · rintro rfl; rfl
          obtain ⟨s, hs⟩ : ∃ s, d.ts[j] = s := ⟨_, rfl⟩
          rw [hs] at hz1 hsn
          by_cases hone : t = 16 ∨ j = 0
          · rw [if_pos (by rw [hnil]; exact hone)] at hsn
            have HB3 : Hid (B + s.size + 1 = A + tsz t (d.ts.take (j + 1))) := by show _ = _; omega
            have hb3 : B + s.size + 1 ≤ Z := by have := HB3.out; omega
            clear hsn hle hZ hA1 hBv hnil hs HBB
            have w3 : IntKind.i64.wrap ((B : Int) + (s.size : Int)) = ((B + s.size : Nat) : Int) := by rw [IntKind.wrap_i64]; omega
            have w4 : IntKind.i64.wrap (((B + s.size : Nat) : Int) + 1) = ((B + s.size + 1 : Nat) : Int) := by rw [IntKind.wrap_i64]; omega
            have hcs : t = 16 ∨ (((t : Int) == 16) = false ∧ j = 0) := by
              by_cases h16 : t = 16
              · exact .inl h16
              · exact .inr ⟨by simp; omega, by omega⟩
            clear hone
            generalize B + s.size + 1 = q1 at *
            generalize B + s.size = q0 at *
            rcases hcs with h16 | ⟨h16, h00⟩
            · subst h16
              go_wp2_with fail
              refine ⟨⟨by first | rfl | trivial, j + 1, q1, by omega, by go_num, by go_num, hb3, HB3⟩, ?_⟩
              simp [intOf]; omega
            · have qj : ((j : Int) == 0) = true := by simp; omega
              have HJ0 : Hid (j = 0) := h00
              clear h00
              go_wp2_with fail
              refine ⟨⟨by first | rfl | trivial, j + 1, q1, by omega, by go_num, by go_num, hb3, HB3⟩, ?_⟩
              simp [intOf]; omega
          · rw [if_neg (by rw [hnil]; exact hone)] at hsn
            have HB3 : Hid (B + s.size = A + tsz t (d.ts.take (j + 1))) := by show _ = _; omega
            have hb3 : B + s.size ≤ Z := by have := HB3.out; omega
            clear hsn hle hZ hA1 hBv hnil hs HBB
            have w3 : IntKind.i64.wrap ((B : Int) + (s.size : Int)) = ((B + s.size : Nat) : Int) := by rw [IntKind.wrap_i64]; omega
            have q16 : ((t : Int) == 16) = false := by simp; omega
            have qj : ((j : Int) == 0) = false := by simp; omega
            clear hone
            generalize B + s.size = q0 at *
            go_wp2_with fail
            refine ⟨⟨by first | rfl | trivial, j + 1, q0, by omega, by go_num, by go_num, hb3, HB3⟩, ?_⟩
            simp [intOf]; omega
        · have hjge : ¬ (j : Int) < (n3 : Int) := by omega
          have HE : Hid (B = Z) := by
            have h1 := HBB.out
            rw [List.take_of_length_le (by rw [HL.out.2]; omega)] at h1
            have h2 := HZ.out
            have h3 := HA1.out
            show _ = _
            omega
          clear HBB
          go_wp2_with fail
          go_ret
          exact ⟨by rw [HE.out]; rfl, H.out.2.2.2⟩
end Go.Proofs.YtfkfjodfjgjbkaaGreatDoor
namespace Go.Proofs.YtfkfjodfjgjbkaaGreatDoor
open Go.ChangeShapes Go.WideShapes Go.ChangeAt Go.RowKit
set_option linter.unusedVariables false
set_option linter.unusedSimpArgs false
theorem shp_wd (t : Nat) : (shp t).wd ≤ 4 := by
  rcases shp_cases t with ⟨_, e⟩ | ⟨_, e⟩ | ⟨_, e⟩ | ⟨_, e⟩ | ⟨_, e⟩ | ⟨_, e⟩ | ⟨_, e⟩ | ⟨_, e⟩ | ⟨_, e⟩ <;> rw [e] <;> decide
theorem shp_257 (t : Nat) (h : t = 257) : (shp t).nt = 2 := by subst h; rfl
theorem nsErr_drop (l : List (List ByteArray)) (k : Nat) (h : ∀ n ∈ l.take k, nck n = 0) : nsErr l = nsErr (l.drop k) := by
  induction k generalizing l with
  | zero => rfl
  | succ k ih =>
    cases l with
    | nil => rfl
    | cons n r =>
      have h0 := h n (by simp)
      rw [List.drop_succ_cons, ← ih r (fun m hm => h m (by simp [hm]))]
      show (if nck n = 0 then nsErr r else nck n) = _
      rw [if_pos h0]
/-- Data and a shape, each in a block of its own, the one at b, the other at g. -/
def CkSt (w W : World) (b g : Nat) (s : Shp) (x : DA) (d : Dat) : Prop := DBox W b x ∧ SBox W g s ∧ DRd W x d ∧ Below w.heap.size w W
theorem CkSt.go {w W W' : World} {b g : Nat} {s : Shp} {x : DA} {d : Dat} (h : CkSt w W b g s x d) (hb : Below W.heap.size W W') : CkSt w W' b g s x d :=
  ⟨h.1.below hb, h.2.1.below hb, h.2.2.1.below hb, h.2.2.2.trans (hb.mono h.2.2.2.size)⟩
theorem CkSt.new {w W : World} {b : Nat} (s : Shp) {x : DA} {d : Dat} (h1 : DBox W b x) (h2 : DRd W x d) (h3 : Below w.heap.size w W) : CkSt w (W.alloc (.cells #[.int .i64 s.nn, .int .i64 s.nu, .int .i64 s.nt, .int .i64 s.nr, .int .i64 s.wd] 107)) b W.heap.size s x d := by
  have hb : Below W.heap.size W (W.alloc (.cells #[.int .i64 s.nn, .int .i64 s.nu, .int .i64 s.nt, .int .i64 s.nr, .int .i64 s.wd] 107)) := (Below.refl _ _).alloc (Nat.le_refl _) _
  exact ⟨h1.below hb, SBox.new W s, h2.below hb, h3.trans (hb.mono h3.size)⟩
end Go.Proofs.YtfkfjodfjgjbkaaGreatDoor
namespace Go.Proofs.YtfkfjodfjgjbkaaGreatDoor
open Go.ChangeShapes Go.WideShapes Go.ChangeAt Go.RowKit
set_option linter.unusedVariables false
set_option linter.unusedSimpArgs false
/-- How many things data of a type have: names, those in front, numbers, their bytes, texts, tags, tails, bytes. -/
structure Fs where
  nn : Nat
  nf : Nat
  nu : Nat
  wd : Nat
  nt : Int
  tg : Nat
  tl : Nat
  nr : Int
def fs (t : Nat) : Fs :=
  if t = 1 then ⟨0, 0, 0, 0, 0, 0, 0, 4⟩ else if t = 28 then ⟨0, 0, 0, 0, 0, 0, 0, 16⟩ else if t = 2 ∨ t = 5 ∨ t = 12 then ⟨1, 0, 0, 0, 0, 0, 0, 0⟩ else if t = 6 then ⟨2, 2, 5, 4, 0, 0, 0, 0⟩ else
  if t = 15 then ⟨1, 0, 1, 2, 0, 0, 0, 0⟩ else if t = 33 then ⟨1, 0, 3, 2, 0, 0, 0, 0⟩ else if t = 16 then ⟨0, 0, 0, 0, -1, 0, 0, 0⟩ else if t = 257 then ⟨0, 0, 1, 1, 2, 1, 1, 0⟩ else ⟨0, 0, 0, 0, 0, 0, 0, -2⟩
theorem fs_cases (t : Nat) : (t = 1 ∧ fs t = ⟨0, 0, 0, 0, 0, 0, 0, 4⟩) ∨ (t = 28 ∧ fs t = ⟨0, 0, 0, 0, 0, 0, 0, 16⟩) ∨ ((t = 2 ∨ t = 5 ∨ t = 12) ∧ fs t = ⟨1, 0, 0, 0, 0, 0, 0, 0⟩) ∨ (t = 6 ∧ fs t = ⟨2, 2, 5, 4, 0, 0, 0, 0⟩) ∨
    (t = 15 ∧ fs t = ⟨1, 0, 1, 2, 0, 0, 0, 0⟩) ∨ (t = 33 ∧ fs t = ⟨1, 0, 3, 2, 0, 0, 0, 0⟩) ∨ (t = 16 ∧ fs t = ⟨0, 0, 0, 0, -1, 0, 0, 0⟩) ∨ (t = 257 ∧ fs t = ⟨0, 0, 1, 1, 2, 1, 1, 0⟩) ∨
    ((t ≠ 1 ∧ t ≠ 28 ∧ t ≠ 2 ∧ t ≠ 5 ∧ t ≠ 12 ∧ t ≠ 6 ∧ t ≠ 15 ∧ t ≠ 33 ∧ t ≠ 16 ∧ t ≠ 257) ∧ fs t = ⟨0, 0, 0, 0, 0, 0, 0, -2⟩) := by
  unfold fs
  by_cases h1 : t = 1
  · simp [h1]
  by_cases h2 : t = 28
  · simp [h2]
  by_cases h3 : t = 2 ∨ t = 5 ∨ t = 12
  · rcases h3 with h | h | h <;> simp [h]
  by_cases h4 : t = 6
  · simp [h4]
  by_cases h5 : t = 15
  · simp [h5]
  by_cases h6 : t = 33
  · simp [h6]
  by_cases h7 : t = 16
  · simp [h7]
  by_cases h8 : t = 257
  · simp [h8]
  · rw [if_neg h1, if_neg h2, if_neg h3, if_neg h4, if_neg h5, if_neg h6, if_neg h7, if_neg h8]
    simp only [not_or] at h3
    exact .inr (.inr (.inr (.inr (.inr (.inr (.inr (.inr ⟨⟨h1, h2, h3.1, h3.2.1, h3.2.2, h4, h5, h6, h7, h8⟩, rfl⟩)))))))
/-- The value of fields. -/
abbrev Fs.val (f : Fs) : Value := .agg #[.int .i64 f.nn, .int .i64 f.nf, .int .i64 f.nu, .int .i64 f.wd, .int .i64 f.nt, .int .i64 f.tg, .int .i64 f.tl, .int .i64 f.nr]
set_option maxRecDepth 100000 in
set_option maxHeartbeats 2000000 in
theorem fieldsof_any (t : Nat) (w : World) : Calls Tryz.prog 54 #[.int .u16 t] w fun e w' => e = .returned (.agg #[.int .i64 (fs t).nn, .int .i64 (fs t).nf, .int .i64 (fs t).nu, .int .i64 (fs t).wd, .int .i64 (fs t).nt, .int .i64 (fs t).tg, .int .i64 (fs t).tl, .int .i64 (fs t).nr]) ∧ Hid (Below w.heap.size w w') := by
  rcases fs_cases t with ⟨ht, e⟩ | ⟨ht, e⟩ | ⟨ht, e⟩ | ⟨ht, e⟩ | ⟨ht, e⟩ | ⟨ht, e⟩ | ⟨ht, e⟩ | ⟨ht, e⟩ | ⟨ht, e⟩
  · subst ht; rw [e]; clear e
    go_enter Tryz.func54, Tryz.ntmps54
    go_wp2_with fail
    exact bodyPost_ret (v := .agg #[.int .i64 0, .int .i64 0, .int .i64 0, .int .i64 0, .int .i64 0, .int .i64 0, .int .i64 0, .int .i64 4]) (by simp [results, Tryz.results54, go_sem]) rfl ⟨rfl, (Below.refl _ _).alloc (Nat.le_refl _) _⟩
  · subst ht; rw [e]; clear e
    go_enter Tryz.func54, Tryz.ntmps54
    go_wp2_with fail
    exact bodyPost_ret (v := .agg #[.int .i64 0, .int .i64 0, .int .i64 0, .int .i64 0, .int .i64 0, .int .i64 0, .int .i64 0, .int .i64 16]) (by simp [results, Tryz.results54, go_sem]) rfl ⟨rfl, (Below.refl _ _).alloc (Nat.le_refl _) _⟩
  · rw [e]; clear e
    rcases ht with rfl | rfl | rfl
    all_goals
      go_enter Tryz.func54, Tryz.ntmps54
      go_wp2_with fail
      exact bodyPost_ret (v := .agg #[.int .i64 1, .int .i64 0, .int .i64 0, .int .i64 0, .int .i64 0, .int .i64 0, .int .i64 0, .int .i64 0]) (by simp [results, Tryz.results54, go_sem]) rfl ⟨rfl, (Below.refl _ _).alloc (Nat.le_refl _) _⟩
  · subst ht; rw [e]; clear e
    go_enter Tryz.func54, Tryz.ntmps54
    go_wp2_with fail
    exact bodyPost_ret (v := .agg #[.int .i64 2, .int .i64 2, .int .i64 5, .int .i64 4, .int .i64 0, .int .i64 0, .int .i64 0, .int .i64 0]) (by simp [results, Tryz.results54, go_sem]) rfl ⟨rfl, (Below.refl _ _).alloc (Nat.le_refl _) _⟩
  · subst ht; rw [e]; clear e
    go_enter Tryz.func54, Tryz.ntmps54
    go_wp2_with fail
    exact bodyPost_ret (v := .agg #[.int .i64 1, .int .i64 0, .int .i64 1, .int .i64 2, .int .i64 0, .int .i64 0, .int .i64 0, .int .i64 0]) (by simp [results, Tryz.results54, go_sem]) rfl ⟨rfl, (Below.refl _ _).alloc (Nat.le_refl _) _⟩
  · subst ht; rw [e]; clear e
    go_enter Tryz.func54, Tryz.ntmps54
    go_wp2_with fail
    exact bodyPost_ret (v := .agg #[.int .i64 1, .int .i64 0, .int .i64 3, .int .i64 2, .int .i64 0, .int .i64 0, .int .i64 0, .int .i64 0]) (by simp [results, Tryz.results54, go_sem]) rfl ⟨rfl, (Below.refl _ _).alloc (Nat.le_refl _) _⟩
  · subst ht; rw [e]; clear e
    go_enter Tryz.func54, Tryz.ntmps54
    go_wp2_with fail
    exact bodyPost_ret (v := .agg #[.int .i64 0, .int .i64 0, .int .i64 0, .int .i64 0, .int .i64 (-1), .int .i64 0, .int .i64 0, .int .i64 0]) (by simp [results, Tryz.results54, go_sem]) rfl ⟨rfl, (Below.refl _ _).alloc (Nat.le_refl _) _⟩
  · subst ht; rw [e]; clear e
    go_enter Tryz.func54, Tryz.ntmps54
    go_wp2_with fail
    exact bodyPost_ret (v := .agg #[.int .i64 0, .int .i64 0, .int .i64 1, .int .i64 1, .int .i64 2, .int .i64 1, .int .i64 1, .int .i64 0]) (by simp [results, Tryz.results54, go_sem]) rfl ⟨rfl, (Below.refl _ _).alloc (Nat.le_refl _) _⟩
  · rw [e]; clear e
    obtain ⟨h1, h2, h3, h4, h5, h6, h7, h8, h9, h10⟩ := ht
    have q1 : ((t : Int) == 1) = false := by simp; omega
    have q2 : ((t : Int) == 28) = false := by simp; omega
    have q3 : ((t : Int) == 2) = false := by simp; omega
    have q4 : ((t : Int) == 5) = false := by simp; omega
    have q5 : ((t : Int) == 12) = false := by simp; omega
    have q6 : ((t : Int) == 6) = false := by simp; omega
    have q7 : ((t : Int) == 15) = false := by simp; omega
    have q8 : ((t : Int) == 33) = false := by simp; omega
    have q9 : ((t : Int) == 16) = false := by simp; omega
    have q10 : ((t : Int) == 257) = false := by simp; omega
    clear h1 h2 h3 h4 h5 h6 h7 h8 h9 h10
    go_enter Tryz.func54, Tryz.ntmps54
    go_wp2_with fail
    exact bodyPost_ret (v := .agg #[.int .i64 0, .int .i64 0, .int .i64 0, .int .i64 0, .int .i64 0, .int .i64 0, .int .i64 0, .int .i64 (-2)]) (by simp [results, Tryz.results54, go_sem]) rfl ⟨rfl, (Below.refl _ _).alloc (Nat.le_refl _) _⟩
set_option maxRecDepth 100000 in
set_option maxHeartbeats 1000000 in
theorem asked_any (t : Int) (w : World) : Calls Tryz.prog 113 #[.int .u16 t] w fun e w' => e = .returned (.bool (decide (128 ≤ t) && decide (t ≤ 255))) ∧ w' = w := by
  go_enter Tryz.func113, Tryz.ntmps113
  go_wp2
  all_goals
    go_ret
    refine ⟨ret_bool ?_, rfl⟩
    simp_all
    try omega
set_option maxRecDepth 100000 in
set_option maxHeartbeats 1000000 in
/-- Whether there are data of a type. -/
theorem hasdata_any (t : Nat) (w : World) : Calls Tryz.prog 53 #[.int .u16 t] w fun e w' => e = .returned (.bool (mayT t)) ∧ w' = w := by
  have HS : Hid (∀ W, Calls Tryz.prog 85 #[.int .u16 t] W fun e w' => e = .returned (.bool (decide (t ≠ 0) && decide (t ≠ 41) && (decide (t < 128) || decide (255 < t)))) ∧ w' = W) := by
    intro W
    go_enter Tryz.func85, Tryz.ntmps85
    by_cases h0 : t = 0
    · subst h0
      go_wp2_with fail
      go_ret
      exact ⟨ret_bool (by decide), rfl⟩
    · by_cases h1 : t = 41
      · subst h1
        go_wp2_with fail
        go_ret
        exact ⟨ret_bool (by decide), rfl⟩
      · have q0 : ((t : Int) == 0) = false := by simp; omega
        have q1 : ((t : Int) == 41) = false := by simp; omega
        go_wp2_with fail
        refine (asked_any t _).mono ?_
        rintro e W ⟨rfl, rfl⟩
        go_wp2_with fail
        go_ret
        refine ⟨ret_bool ?_, rfl⟩
        simp [h0, h1]
        by_cases h2 : t < 128
        · simp [h2]; omega
        · by_cases h3 : 255 < t
          · simp [h3]; omega
          · simp [h2, h3]; omega
  go_enter Tryz.func53, Tryz.ntmps53
  by_cases h1 : t = 41
  · subst h1
    go_wp2_with fail
    refine (HS.out _).mono ?_
    rintro e W ⟨rfl, rfl⟩
    go_wp2_with fail
    go_ret
    exact ⟨rfl, rfl⟩
  · have q1 : ((t : Int) == 41) = false := by simp; omega
    go_wp2_with fail
    refine (HS.out _).mono ?_
    rintro e W ⟨rfl, rfl⟩
    have hm : (decide (t ≠ 0) && decide (t ≠ 41) && (decide (t < 128) || decide (255 < t))) = mayT t := by simp [mayT, h1]
    rw [hm]
    cases hmt : mayT t
    all_goals
      go_wp2_with fail
      go_ret
      exact ⟨ret_bool (by rw [hmt]), rfl⟩
/-- Whether so many things are as many as a count says. -/
def fitB (n : Nat) (c : Int) : Bool := if c = -1 then decide (0 < n) else if c = -2 then true else decide ((n : Int) = c)
set_option maxRecDepth 100000 in
set_option maxHeartbeats 1000000 in
theorem pfits_any (n : Nat) (c : Int) (w : World) : Calls Tryz.prog 86 #[.int .i64 n, .int .i64 c] w fun e w' => e = .returned (.bool (fitB n c)) ∧ w' = w := by
  unfold fitB
  by_cases h1 : c = -1
  · subst h1
    rw [if_pos rfl]
    go_enter Tryz.func86, Tryz.ntmps86
    go_wp2_with fail
    go_ret
    exact ⟨ret_bool (by simp), rfl⟩
  rw [if_neg h1]
  have q1 : (c == -1) = false := by simp [h1]
  by_cases h2 : c = -2
  · subst h2
    rw [if_pos rfl]
    go_enter Tryz.func86, Tryz.ntmps86
    go_wp2_with fail
    go_ret
    exact ⟨rfl, rfl⟩
  rw [if_neg h2]
  have q2 : (c == -2) = false := by simp [h2]
  go_enter Tryz.func86, Tryz.ntmps86
  go_wp2_with fail
  go_ret
  exact ⟨ret_bool (by by_cases h : (n : Int) = c <;> simp [h]), rfl⟩
/-- Fields in a block of their own. -/
def FBox (w : World) (b : Nat) (f : Fs) : Prop :=
  w.cell? ⟨b, 0, none⟩ = some (.int .i64 f.nn) ∧ w.cell? ⟨b, 1, none⟩ = some (.int .i64 f.nf) ∧ w.cell? ⟨b, 2, none⟩ = some (.int .i64 f.nu) ∧ w.cell? ⟨b, 3, none⟩ = some (.int .i64 f.wd) ∧ w.cell? ⟨b, 4, none⟩ = some (.int .i64 f.nt) ∧ w.cell? ⟨b, 5, none⟩ = some (.int .i64 f.tg) ∧ w.cell? ⟨b, 6, none⟩ = some (.int .i64 f.tl) ∧ w.cell? ⟨b, 7, none⟩ = some (.int .i64 f.nr) ∧ b < w.heap.size
theorem FBox.new (w : World) (f : Fs) : FBox (w.alloc (.cells #[.int .i64 f.nn, .int .i64 f.nf, .int .i64 f.nu, .int .i64 f.wd, .int .i64 f.nt, .int .i64 f.tg, .int .i64 f.tl, .int .i64 f.nr] 90)) w.heap.size f := by
  refine ⟨?_, ?_, ?_, ?_, ?_, ?_, ?_, ?_, by simp⟩ <;> (unfold World.cell?; rw [heap_alloc_new]; rfl)
theorem FBox.below {w w' : World} {b : Nat} {f : Fs} (h : FBox w b f) (hb : Below w.heap.size w w') : FBox w' b f := by
  obtain ⟨h0, h1, h2, h3, h4, h5, h6, h7, hl⟩ := h
  exact ⟨(hb.cell (p := ⟨b, 0, none⟩) hl).trans h0, (hb.cell (p := ⟨b, 1, none⟩) hl).trans h1, (hb.cell (p := ⟨b, 2, none⟩) hl).trans h2, (hb.cell (p := ⟨b, 3, none⟩) hl).trans h3, (hb.cell (p := ⟨b, 4, none⟩) hl).trans h4, (hb.cell (p := ⟨b, 5, none⟩) hl).trans h5, (hb.cell (p := ⟨b, 6, none⟩) hl).trans h6, (hb.cell (p := ⟨b, 7, none⟩) hl).trans h7, Nat.lt_of_lt_of_le hl hb.size⟩
/-- Fields and data, each in a block of its own. -/
def PtSt (w W : World) (b : Nat) (f : Fs) (x : DA) (d : Dat) : Prop := FBox W b f ∧ DBox W (b + 1) x ∧ DRd W x d ∧ Below w.heap.size w W
theorem PtSt.go {w W W' : World} {b : Nat} {f : Fs} {x : DA} {d : Dat} (h : PtSt w W b f x d) (hb : Below W.heap.size W W') : PtSt w W' b f x d :=
  ⟨h.1.below hb, h.2.1.below hb, h.2.2.1.below hb, h.2.2.2.trans (hb.mono h.2.2.2.size)⟩
theorem PtSt.new (w : World) (f : Fs) (x : DA) (d : Dat) (h : DRd w x d) : PtSt w ((w.alloc (.cells #[.int .i64 f.nn, .int .i64 f.nf, .int .i64 f.nu, .int .i64 f.wd, .int .i64 f.nt, .int .i64 f.tg, .int .i64 f.tl, .int .i64 f.nr] 90)).alloc (.cells #[.slice x.p1.a x.p1.n x.p1.c, .slice x.p2.a x.p2.n x.p2.c, .slice x.p3.a x.p3.n x.p3.c, .slice x.p4.a x.p4.n x.p4.c] 29)) w.heap.size f x d := by
  have hb1 : Below w.heap.size w (w.alloc (.cells #[.int .i64 f.nn, .int .i64 f.nf, .int .i64 f.nu, .int .i64 f.wd, .int .i64 f.nt, .int .i64 f.tg, .int .i64 f.tl, .int .i64 f.nr] 90)) := (Below.refl _ _).alloc (Nat.le_refl _) _
  have HX := FBox.new w f
  have hx1 := h.below hb1
  obtain ⟨W0, hW0⟩ : ∃ W, W = w.alloc (.cells #[.int .i64 f.nn, .int .i64 f.nf, .int .i64 f.nu, .int .i64 f.wd, .int .i64 f.nt, .int .i64 f.tg, .int .i64 f.tl, .int .i64 f.nr] 90) := ⟨_, rfl⟩
  have hs0 : W0.heap.size = w.heap.size + 1 := by rw [hW0]; simp
  rw [← hW0] at hb1 HX hx1 ⊢
  have hb2 : Below W0.heap.size W0 (W0.alloc (.cells #[.slice x.p1.a x.p1.n x.p1.c, .slice x.p2.a x.p2.n x.p2.c, .slice x.p3.a x.p3.n x.p3.c, .slice x.p4.a x.p4.n x.p4.c] 29)) := (Below.refl _ _).alloc (Nat.le_refl _) _
  have HY := DBox.new W0 x
  rw [hs0] at HY
  exact ⟨HX.below hb2, HY, hx1.below hb2, hb1.trans (hb2.mono hb1.size)⟩
/-- Whether data have as many things as fields say. -/
def cntB (f : Fs) (d : Dat) : Bool := fitB d.ns.length f.nn && fitB d.us.length f.nu && fitB d.ts.length f.nt && fitB d.raw.length f.nr
set_option maxRecDepth 100000 in
set_option maxHeartbeats 2000000 in
theorem counted_any (f : Fs) (x : DA) (d : Dat) (w : World) (h : DRd w x d) :
    Calls Tryz.prog 55 #[.agg #[.int .i64 f.nn, .int .i64 f.nf, .int .i64 f.nu, .int .i64 f.wd, .int .i64 f.nt, .int .i64 f.tg, .int .i64 f.tl, .int .i64 f.nr], .agg #[.slice x.p1.a x.p1.n x.p1.c, .slice x.p2.a x.p2.n x.p2.c, .slice x.p3.a x.p3.n x.p3.c, .slice x.p4.a x.p4.n x.p4.c]] w fun e w' => e = .returned (.bool (cntB f d)) ∧ Hid (Below w.heap.size w w') := by
  have H : Hid (PtSt w ((w.alloc (.cells #[.int .i64 f.nn, .int .i64 f.nf, .int .i64 f.nu, .int .i64 f.wd, .int .i64 f.nt, .int .i64 f.tg, .int .i64 f.tl, .int .i64 f.nr] 90)).alloc (.cells #[.slice x.p1.a x.p1.n x.p1.c, .slice x.p2.a x.p2.n x.p2.c, .slice x.p3.a x.p3.n x.p3.c, .slice x.p4.a x.p4.n x.p4.c] 29)) w.heap.size f x d) := PtSt.new w f x d h
  have l1 := h.h1.len
  have l2 := h.h2.len
  have l3 := h.h3.len
  have l4 := h.h4.len
  clear h
  unfold cntB
  rw [l1, l2, l3, l4]
  clear l1 l2 l3 l4
  obtain ⟨nn, nf, nu, wd, nt, tg, tl, nr⟩ := f
  obtain ⟨⟨a1, n1, k1⟩, ⟨a2, n2, k2⟩, ⟨a3, n3, k3⟩, ⟨a4, n4, k4⟩⟩ := x
  simp only at H ⊢
  go_enter Tryz.func55, Tryz.ntmps55
  go_upto_region 1 with fail
  generalize ((w.alloc (.cells #[.int .i64 nn, .int .i64 nf, .int .i64 nu, .int .i64 wd, .int .i64 nt, .int .i64 tg, .int .i64 tl, .int .i64 nr] 90)).alloc (.cells #[.slice a1 n1 k1, .slice a2 n2 k2, .slice a3 n3 k3, .slice a4 n4 k4] 29)) = W1 at *
  have s0 := H.out.1.1
  have s2 := H.out.1.2.2.1
  have s4 := H.out.1.2.2.2.2.1
  have s7 := H.out.1.2.2.2.2.2.2.2.1
  have c0 := H.out.2.1.1
  have c1 := H.out.2.1.2.1
  have c2 := H.out.2.1.2.2.1
  have c3 := H.out.2.1.2.2.2.1
  simp only at s0 s2 s4 s7 c0 c1 c2 c3
  go_wp2_with fail
  refine (pfits_any n1 nn _).mono ?_
  rintro e W ⟨rfl, rfl⟩
  cases hfn1 : fitB n1 nn with
  | false =>
    go_wp2_with fail
    go_ret
    exact ⟨ret_bool (by simp [*]), H.out.2.2.2⟩
  | true =>
    go_wp2_with fail
    refine (pfits_any n2 nu _).mono ?_
    rintro e W ⟨rfl, rfl⟩
    cases hfn2 : fitB n2 nu with
    | false =>
      go_wp2_with fail
      go_ret
      exact ⟨ret_bool (by simp [*]), H.out.2.2.2⟩
    | true =>
      go_wp2_with fail
      refine (pfits_any n3 nt _).mono ?_
      rintro e W ⟨rfl, rfl⟩
      cases hfn3 : fitB n3 nt with
      | false =>
        go_wp2_with fail
        go_ret
        exact ⟨ret_bool (by simp [*]), H.out.2.2.2⟩
      | true =>
        go_wp2_with fail
        refine (pfits_any n4 nr _).mono ?_
        rintro e W ⟨rfl, rfl⟩
        go_wp2_with fail
        go_ret
        exact ⟨ret_bool (by simp [*]), H.out.2.2.2⟩
end Go.Proofs.YtfkfjodfjgjbkaaGreatDoor
namespace Go.Proofs.YtfkfjodfjgjbkaaGreatDoor
open Go.ChangeShapes Go.WideShapes Go.ChangeAt Go.RowKit
set_option linter.unusedVariables false
set_option linter.unusedSimpArgs false
theorem call151 (s : ByteArray) (c : Int) (w : World) : (callFunc 151 #[.string s, .int .u8 c]).run Tryz.prog w = .ok (.value (.int .i64 (Lib.indexByte s.data.toList c.toNat.toUInt8))) w := by
  rw [run_callFunc_extern Tryz.func151 (by kernel_rfl) (by kernel_rfl) (by kernel_rfl) (by kernel_rfl) _ w]
  show ((Extern.BytealgIndexByte.indexByte #[.string s, .int .u8 c]).run Tryz.prog w).andThen _ = _
  rw [Lib.run_indexByteString]
  rfl
set_option maxRecDepth 100000 in
set_option maxHeartbeats 400000 in
theorem sidx_any (s : ByteArray) (c : Int) (w : World) : Calls Tryz.prog 132 #[.string s, .int .u8 c] w fun e w' => e = .returned (.int .i64 (Lib.indexByte s.data.toList c.toNat.toUInt8)) ∧ w' = w := by
  have h := call151 s c
  go_enter Tryz.func132, Tryz.ntmps132
  go_wp2
  go_ret
  exact ⟨rfl, rfl⟩
set_option maxRecDepth 100000 in
set_option maxHeartbeats 400000 in
theorem idx_any (s : ByteArray) (c : Int) (w : World) : Calls Tryz.prog 114 #[.string s, .int .u8 c] w fun e w' => e = .returned (.int .i64 (Lib.indexByte s.data.toList c.toNat.toUInt8)) ∧ w' = w := by
  go_enter Tryz.func114, Tryz.ntmps114
  go_wp2_with fail
  refine (sidx_any s c _).mono ?_
  rintro e w1 ⟨rfl, rfl⟩
  go_wp2
  go_ret
  exact ⟨rfl, rfl⟩
/-- Letters and digits. -/
def tagged : List UInt8 := [97, 98, 99, 100, 101, 102, 103, 104, 105, 106, 107, 108, 109, 110, 111, 112, 113, 114, 115, 116, 117, 118, 119, 120, 121, 122, 65, 66, 67, 68, 69, 70, 71, 72, 73, 74, 75, 76, 77, 78, 79, 80, 81, 82, 83, 84, 85, 86, 87, 88, 89, 90, 48, 49, 50, 51, 52, 53, 54, 55, 56, 57]
set_option maxRecDepth 100000 in
theorem tagged_idx : ∀ n : Fin 256, decide (Lib.indexByte tagged n.val.toUInt8 < 0) = !alnum (n.val : Int) := by decide +kernel
theorem idx_tag (c : Int) (h0 : 0 ≤ c) (h1 : c ≤ 255) (w : World) : Calls Tryz.prog 114 #[.string { data := #[97, 98, 99, 100, 101, 102, 103, 104, 105, 106, 107, 108, 109, 110, 111, 112, 113, 114, 115, 116, 117, 118, 119, 120, 121, 122, 65, 66, 67, 68, 69, 70, 71, 72, 73, 74, 75, 76, 77, 78, 79, 80, 81, 82, 83, 84, 85, 86, 87, 88, 89, 90, 48, 49, 50, 51, 52, 53, 54, 55, 56, 57] }, .int .u8 c] w fun e w' => ∃ k, e = .returned (.int .i64 k) ∧ Hid (decide (k < 0) = !alnum c) ∧ w' = w := by
  refine (idx_any _ c w).mono ?_
  rintro e w1 ⟨rfl, rfl⟩
  refine ⟨_, rfl, ?_, rfl⟩
  have := tagged_idx ⟨c.toNat, by omega⟩
  simp only at this
  rw [Int.toNat_of_nonneg h0] at this
  exact this
set_option maxRecDepth 100000 in
set_option maxHeartbeats 2000000 in
theorem istag_any (s : ByteArray) (hs : s.size ≤ 9223372036854775807) (w : World) : Calls Tryz.prog 87 #[.string s] w fun e w' => e = .returned (.bool (tagB s)) ∧ w' = w := by
  by_cases h1 : s.size = 0
  · have HE : Hid (tagB s = false) := by show _ = _; simp [tagB]; omega
    have h1' : ((s.size : Int) == 0) = true := by rw [beq_iff_eq]; omega
    go_enter Tryz.func87, Tryz.ntmps87
    go_wp2_with fail
    go_ret
    exact ⟨by rw [HE.out]; rfl, rfl⟩
  · have h1' : ((s.size : Int) == 0) = false := by rw [beq_eq_false_iff_ne]; omega
    by_cases h2 : 15 < s.size
    · have HE : Hid (tagB s = false) := by show _ = _; simp [tagB]; omega
      have h2' : (15 : Int) < (s.size : Int) := by omega
      go_enter Tryz.func87, Tryz.ntmps87
      go_wp2_with fail
      go_ret
      exact ⟨by rw [HE.out]; rfl, rfl⟩
    · have h2' : ¬ (15 : Int) < (s.size : Int) := by omega
      have HT : Hid (tagB s = (nums s).all alnum) := by show _ = _; simp [tagB]; intro _; omega
      go_enter Tryz.func87, Tryz.ntmps87
      go_wp2_with fail
      go_loopw [14] (fun v wr => wr = w ∧ ∃ k : Nat, k ≤ s.size ∧ v = .int .i64 (k : Int) ∧ Hid (∀ z ∈ (nums s).take k, alnum z = true)) (fun v _ => s.size - (intOf v).toNat)
      case atStart => exact ⟨rfl, 0, Nat.zero_le _, rfl, by intro y hy; simp at hy⟩
      case round =>
        obtain ⟨hwr, k, hk, rfl, HF⟩ := hrel
        subst hwr
        by_cases hlt : k < s.size
        · have hlt' : (k : Int) < (s.size : Int) := by omega
          have hbd := nums_bd s k
          have hki : k < (nums s).length := by rw [nums_len]; exact hlt
          have hat := nums_at s k hlt
          rw [hat] at hbd
          have HA : Hid (∃ h : k < (nums s).length, (nums s)[k] = (s[k].toNat : Int)) := by
            refine ⟨hki, ?_⟩
            have : (nums s).getD k 0 = (nums s)[k] := by simp [List.getD_eq_getElem?_getD, hki]
            rw [← this, hat]
          clear hat hki
          obtain ⟨c, hc⟩ : ∃ c : Int, (s[k].toNat : Int) = c := ⟨_, rfl⟩
          rw [hc] at hbd HA
          go_wp2_with fail
          first | simp only [hc] | skip
          refine (idx_tag c hbd.1 hbd.2 _).mono ?_
          rintro e w1 ⟨j, rfl, HJ, rfl⟩
          cases hal : alnum c with
          | true =>
            have HF2 : Hid (∀ z ∈ (nums s).take (k + 1), alnum z = true) := by
              intro z hz
              obtain ⟨hin, hav⟩ := HA.out
              rw [List.take_succ_eq_append_getElem hin] at hz
              simp only [List.mem_append, List.mem_singleton] at hz
              rcases hz with hz | hz
              · exact HF.out z hz
              · subst hz; rw [hav]; exact hal
            have hj : ¬ j < 0 := by have := HJ.out; rw [hal] at this; simpa using this
            clear HF hal HJ
            go_wp2_with fail
            exact ⟨⟨by first | rfl | trivial, k + 1, by omega, by go_num, HF2⟩, by simp [intOf]; omega⟩
          | false =>
            have HE : Hid (tagB s = false) := by
              show _ = _
              rw [HT.out, ← Bool.not_eq_true]
              intro hall
              obtain ⟨hin, hav⟩ := HA.out
              have := List.all_eq_true.1 hall (nums s)[k] (List.getElem_mem hin)
              rw [hav, hal] at this
              cases this
            have hj : j < 0 := by have := HJ.out; rw [hal] at this; simpa using this
            clear HF hal HT HJ
            go_wp2_with fail
            go_ret
            exact ⟨by rw [HE.out]; rfl, rfl⟩
        · have hge : ¬ (k : Int) < (s.size : Int) := by omega
          have HE : Hid (tagB s = true) := by
            have := HF.out
            rw [List.take_of_length_le (by rw [nums_len]; omega)] at this
            show _ = _
            rw [HT.out]
            exact List.all_eq_true.2 this
          clear HF HT
          go_wp2_with fail
          go_ret
          exact ⟨by rw [HE.out]; rfl, rfl⟩
end Go.Proofs.YtfkfjodfjgjbkaaGreatDoor
namespace Go.Proofs.YtfkfjodfjgjbkaaGreatDoor
open Go.ChangeShapes Go.WideShapes Go.ChangeAt Go.RowKit
set_option linter.unusedVariables false
set_option linter.unusedSimpArgs false
/-- Whether numbers and texts are within their bounds. -/
def wthB (f : Fs) (d : Dat) : Bool := d.us.all (fun n => decide (n / 2 ^ (8 * f.wd) = 0)) && (d.ts.take f.tg).all tagB && (d.ts.take (d.ts.length - f.tl)).all (fun s => decide (s.size ≤ 255))
theorem all_cut {α : Type} (l : List α) (p : α → Bool) (k : Nat) (hk : k < l.length) (h : p l[k] = false) : l.all p = false := by
  rw [← Bool.not_eq_true]
  intro hall
  have := List.all_eq_true.1 hall l[k] (List.getElem_mem hk)
  rw [h] at this
  cases this
theorem all_next {α : Type} (l : List α) (p : α → Bool) (k : Nat) (hk : k < l.length) (h : p l[k] = true) (hf : ∀ z ∈ l.take k, p z = true) : ∀ z ∈ l.take (k + 1), p z = true := by
  intro z hz
  rw [List.take_succ_eq_append_getElem hk] at hz
  simp only [List.mem_append, List.mem_singleton] at hz
  rcases hz with hz | hz
  · exact hf z hz
  · subst hz; exact h
set_option maxRecDepth 100000 in
set_option maxHeartbeats 4000000 in
theorem within_any (f : Fs) (x : DA) (d : Dat) (w : World) (h : DRd w x d) (hwd : f.wd = 0 ∨ f.wd = 1 ∨ f.wd = 2 ∨ f.wd = 4) (htg : f.tg ≤ d.ts.length) (htl : f.tl ≤ d.ts.length) :
    Calls Tryz.prog 56 #[.agg #[.int .i64 f.nn, .int .i64 f.nf, .int .i64 f.nu, .int .i64 f.wd, .int .i64 f.nt, .int .i64 f.tg, .int .i64 f.tl, .int .i64 f.nr], .agg #[.slice x.p1.a x.p1.n x.p1.c, .slice x.p2.a x.p2.n x.p2.c, .slice x.p3.a x.p3.n x.p3.c, .slice x.p4.a x.p4.n x.p4.c]] w fun e w' => e = .returned (.bool (wthB f d)) ∧ Hid (Below w.heap.size w w') := by
  have H : Hid (PtSt w ((w.alloc (.cells #[.int .i64 f.nn, .int .i64 f.nf, .int .i64 f.nu, .int .i64 f.wd, .int .i64 f.nt, .int .i64 f.tg, .int .i64 f.tl, .int .i64 f.nr] 90)).alloc (.cells #[.slice x.p1.a x.p1.n x.p1.c, .slice x.p2.a x.p2.n x.p2.c, .slice x.p3.a x.p3.n x.p3.c, .slice x.p4.a x.p4.n x.p4.c] 29)) w.heap.size f x d) := PtSt.new w f x d h
  have l2 := h.h2.len
  have l3 := h.h3.len
  have HC : Hid (x.p2.n ≤ 9223372036854775807 ∧ x.p3.n ≤ x.p3.c ∧ x.p3.c ≤ 9223372036854775807) := ⟨Nat.le_trans h.h2.cap.1 h.h2.cap.2, h.h3.cap.1, h.h3.cap.2⟩
  clear h
  obtain ⟨nn, nf, nu, wd, nt, tg, tl, nr⟩ := f
  obtain ⟨⟨a1, n1, k1⟩, ⟨a2, n2, k2⟩, ⟨a3, n3, k3⟩, ⟨a4, n4, k4⟩⟩ := x
  simp only at H l2 l3 HC hwd htg htl ⊢
  have hk3 := HC.out.2
  have hn2 := HC.out.1
  have htg' : tg ≤ n3 := by omega
  have htl' : tl ≤ n3 := by omega
  have HW : Hid (wthB ⟨nn, nf, nu, wd, nt, tg, tl, nr⟩ d = (d.us.all (fun n => decide (n / 2 ^ (8 * wd) = 0)) && (d.ts.take tg).all tagB && (d.ts.take (n3 - tl)).all (fun s => decide (s.size ≤ 255)))) := by
    show _ = _
    unfold wthB
    rw [l3]
  have HL : Hid (d.us.length = n2 ∧ d.ts.length = n3) := ⟨l2, l3⟩
  obtain ⟨R, hR⟩ : ∃ R, wthB ⟨nn, nf, nu, wd, nt, tg, tl, nr⟩ d = R := ⟨_, rfl⟩
  rw [hR] at HW ⊢
  clear hR l2 l3 htg htl HC
  go_enter Tryz.func56, Tryz.ntmps56
  go_upto_region 1 with fail
  generalize ((w.alloc (.cells #[.int .i64 nn, .int .i64 nf, .int .i64 nu, .int .i64 wd, .int .i64 nt, .int .i64 tg, .int .i64 tl, .int .i64 nr] 90)).alloc (.cells #[.slice a1 n1 k1, .slice a2 n2 k2, .slice a3 n3 k3, .slice a4 n4 k4] 29)) = W1 at *
  obtain ⟨b, hb⟩ : ∃ b, b = w.heap.size := ⟨_, rfl⟩
  rw [← hb] at H ⊢
  have Hb : Hid (b = w.heap.size) := hb
  clear hb
  have s3 := H.out.1.2.2.2.1
  have c1 := H.out.2.1.2.1
  simp only at s3 c1
  go_wp2_with fail
  go_loopw [14] (fun v wr => wr = W1 ∧ ∃ k : Nat, k ≤ n2 ∧ v = .int .i64 (k : Int) ∧ Hid (∀ z ∈ d.us.take k, decide (z / 2 ^ (8 * wd) = 0) = true)) (fun v _ => n2 - (intOf v).toNat)
  case atStart => exact ⟨rfl, 0, Nat.zero_le _, rfl, by intro y hy; simp at hy⟩
  case round =>
    obtain ⟨hwr, k, hk, rfl, HF⟩ := hrel
    subst hwr
    by_cases hlt : k < n2
    · have hlt' : (k : Int) < (n2 : Int) := by omega
      have hki : k < d.us.length := by rw [HL.out.1]; exact hlt
      obtain ⟨B2, o2, ha2, hl2, hz2⟩ := H.out.2.2.1.h2.at k hki
      have hub := H.out.2.2.1.h2.bd _ (List.getElem_mem hki)
      simp only at ha2
      subst ha2
      have HN : Hid (decide (d.us[k] / 2 ^ (8 * wd) = 0) = true → ∀ z ∈ d.us.take (k + 1), decide (z / 2 ^ (8 * wd) = 0) = true) := fun hh => all_next d.us _ k hki hh HF.out
      have HX : Hid (decide (d.us[k] / 2 ^ (8 * wd) = 0) = false → R = false) := by
        intro hh
        have := HW.out
        rw [all_cut d.us (fun n => decide (n / 2 ^ (8 * wd) = 0)) k hki hh] at this
        simpa using this
      clear HF
      generalize d.us[k] = u at *
      have hq : ∀ m : Nat, ((u : Int) / ((2 ^ m : Nat) : Int)) = ((u / 2 ^ m : Nat) : Int) := by intro m; simp
      by_cases hu : u / 2 ^ (8 * wd) = 0
      · have HF2 := HN.out (decide_eq_true hu)
        have HF3 : Hid (∀ z ∈ d.us.take (k + 1), decide (z / 2 ^ (8 * wd) = 0) = true) := HF2
        clear HF2 HN HX
        rcases hwd with e | e | e | e
        all_goals
          subst e
          simp at hu
          go_wp2_with fail
          exact ⟨⟨by first | rfl | trivial, k + 1, by omega, by go_num, HF3⟩, by simp [intOf]; omega⟩
      · have HE : Hid (R = false) := HX.out (decide_eq_false hu)
        clear HN HX HW
        rcases hwd with e | e | e | e
        all_goals
          subst e
          simp at hu
          first
          | omega
          | (go_wp2_with fail
             go_ret
             exact ⟨by rw [HE.out]; rfl, H.out.2.2.2⟩)
    · have hge : ¬ (k : Int) < (n2 : Int) := by omega
      have HU : Hid (d.us.all (fun n => decide (n / 2 ^ (8 * wd) = 0)) = true) := by
        have := HF.out
        rw [List.take_of_length_le (by rw [HL.out.1]; omega)] at this
        exact List.all_eq_true.2 this
      clear HF
      have s5 := H.out.1.2.2.2.2.2.1
      have c2 := H.out.2.1.2.2.1
      simp only at s5 c2
      clear s3 c1 hwd
      go_wp2_with fail
      obtain ⟨wz, hz⟩ : ∃ z, z = wr := ⟨_, rfl⟩
      subst hz
      go_loopw [31] (fun v wr => wr = wz ∧ ∃ k : Nat, k ≤ tg ∧ v = .int .i64 (k : Int) ∧ Hid (∀ z ∈ (d.ts.take tg).take k, tagB z = true)) (fun v _ => tg - (intOf v).toNat)
      case atStart => exact ⟨rfl, 0, Nat.zero_le _, rfl, by intro y hy; simp at hy⟩
      case round =>
        obtain ⟨hwr, j, hj, rfl, HF⟩ := hrel
        subst hwr
        by_cases hjt : j < tg
        · have hjt' : (j : Int) < (tg : Int) := by omega
          have hji : j < d.ts.length := by rw [HL.out.2]; omega
          have hjj : j < (d.ts.take tg).length := by rw [List.length_take]; omega
          obtain ⟨B3, o3, ha3, hl3, hy3⟩ := H.out.2.2.1.h3.rd.at j hji
          have hsz := H.out.2.2.1.h3.z63 _ (List.getElem_mem hji)
          simp only at ha3
          subst ha3
          have hjs : (d.ts.take tg)[j] = d.ts[j] := by simp
          have HN : Hid (tagB d.ts[j] = true → ∀ z ∈ (d.ts.take tg).take (j + 1), tagB z = true) := fun hh => all_next (d.ts.take tg) tagB j hjj (by rw [hjs]; exact hh) HF.out
          have HX : Hid (tagB d.ts[j] = false → R = false) := by
            intro hh
            have := HW.out
            rw [all_cut (d.ts.take tg) tagB j hjj (by rw [hjs]; exact hh)] at this
            simpa using this
          clear HF hjs hjj
          generalize d.ts[j] = s at *
          go_wp2_with fail
          refine (istag_any s hsz _).mono ?_
          rintro e Wx ⟨rfl, rfl⟩
          cases htb : tagB s with
          | true =>
            have HF2 : Hid (∀ z ∈ (d.ts.take tg).take (j + 1), tagB z = true) := HN.out htb
            clear HN HX htb
            go_wp2_with fail
            exact ⟨⟨by first | rfl | trivial, j + 1, by omega, by go_num, HF2⟩, by simp [intOf]; omega⟩
          | false =>
            have HE : Hid (R = false) := HX.out htb
            clear HN HX htb
            go_wp2_with fail
            go_ret
            exact ⟨by rw [HE.out]; rfl, H.out.2.2.2⟩
        · have hge2 : ¬ (j : Int) < (tg : Int) := by omega
          have HT : Hid ((d.ts.take tg).all tagB = true) := by
            have := HF.out
            rw [List.take_of_length_le (by rw [List.length_take]; omega)] at this
            exact List.all_eq_true.2 this
          clear HF
          have s6 := H.out.1.2.2.2.2.2.2.1
          simp only at s6
          obtain ⟨m, hm⟩ : ∃ m : Nat, m = n3 - tl := ⟨_, rfl⟩
          have hmi : (n3 : Int) - (tl : Int) = (m : Int) := by omega
          have hmw : IntKind.i64.wrap ((n3 : Int) - (tl : Int)) = (m : Int) := by rw [hmi, IntKind.wrap_i64]; omega
          have HM : Hid (m = n3 - tl) := hm
          have hmn : m ≤ n3 := by omega
          clear hm hmi s5
          go_wp2_with fail
          obtain ⟨wy, hz⟩ : ∃ z, z = wr := ⟨_, rfl⟩
          subst hz
          go_loopw [49] (fun v wr => wr = wy ∧ ∃ k : Nat, k ≤ m ∧ v = .int .i64 (k : Int) ∧ Hid (∀ z ∈ (d.ts.take m).take k, decide (z.size ≤ 255) = true)) (fun v _ => m - (intOf v).toNat)
          case atStart => exact ⟨rfl, 0, Nat.zero_le _, rfl, by intro y hy; simp at hy⟩
          case round =>
            obtain ⟨hwr, i, hi, rfl, HF⟩ := hrel
            subst hwr
            by_cases hit : i < m
            · have hit' : (i : Int) < (m : Int) := by omega
              have hii : i < d.ts.length := by rw [HL.out.2]; omega
              have hij : i < (d.ts.take m).length := by rw [List.length_take]; omega
              obtain ⟨B3, o3, ha3, hl3, hy3⟩ := H.out.2.2.1.h3.rd.at i hii
              simp only at ha3
              subst ha3
              have his : (d.ts.take m)[i] = d.ts[i] := by simp
              by_cases hz : (255 : Int) < (d.ts[i].size : Int)
              · have HE : Hid (R = false) := by
                  have := HW.out
                  show R = false
                  rw [← HM.out, all_cut (d.ts.take m) (fun s => decide (s.size ≤ 255)) i hij (by rw [his]; exact decide_eq_false (by omega))] at this
                  simpa using this
                clear HF HW
                generalize d.ts[i] = s at *
                go_wp2_with fail
                go_ret
                exact ⟨by rw [HE.out]; rfl, H.out.2.2.2⟩
              · have HF2 : Hid (∀ z ∈ (d.ts.take m).take (i + 1), decide (z.size ≤ 255) = true) := all_next (d.ts.take m) (fun z => decide (z.size ≤ 255)) i hij (by rw [his]; exact decide_eq_true (by omega)) HF.out
                clear HF his
                generalize d.ts[i] = s at *
                go_wp2_with fail
                exact ⟨⟨by first | rfl | trivial, i + 1, by omega, by go_num, HF2⟩, by simp [intOf]; omega⟩
            · have hge3 : ¬ (i : Int) < (m : Int) := by omega
              have HE : Hid (R = true) := by
                have h1 := HF.out
                rw [List.take_of_length_le (by rw [List.length_take]; omega)] at h1
                have h2 := HW.out
                rw [HU.out, HT.out, ← HM.out, List.all_eq_true.2 h1] at h2
                show R = true
                simpa using h2
              clear HF HW
              go_wp2_with fail
              go_ret
              exact ⟨by rw [HE.out]; rfl, H.out.2.2.2⟩
end Go.Proofs.YtfkfjodfjgjbkaaGreatDoor
namespace Go.Proofs.YtfkfjodfjgjbkaaGreatDoor
open Go.ChangeShapes Go.WideShapes Go.ChangeAt Go.RowKit
set_option linter.unusedVariables false
set_option linter.unusedSimpArgs false
set_option maxRecDepth 100000 in
set_option maxHeartbeats 1000000 in
theorem psize_eq (a : Option Addr) (len cap : Nat) (ss : List ByteArray) (w : World) (hr : RdT w a ss) (hl : ss.length = len) (hm : nsz ss ≤ 1000000000000000) :
    Calls Tryz.prog 59 #[.slice a len cap] w fun e w' => e = .returned (.int .i64 (nsz ss)) ∧ w' = w := by
  have HR : Hid (RdT w a ss) := hr
  have HL : Hid (ss.length = len) := hl
  have hln : len ≤ 9223372036854775807 := by have := nsz_len ss; omega
  obtain ⟨T, hT⟩ : ∃ T, nsz ss = T := ⟨_, rfl⟩
  have HT : Hid (nsz ss = T) := hT
  rw [hT] at hm ⊢
  clear hr hl hT
  go_enter Tryz.func59, Tryz.ntmps59
  go_wp2_with fail
  go_loop [3, 8] (fun n x => ∃ k m : Nat, k ≤ len ∧ m ≤ T ∧ x = .int .i64 k ∧ n = .int .i64 m ∧ Hid (nsz (ss.take k) = m)) (fun _ x => len - (intOf x).toNat)
  case atStart => exact ⟨0, 1, Nat.zero_le _, by rw [← HT.out]; exact nsz_le ss 0, rfl, rfl, rfl⟩
  case round =>
    obtain ⟨k, m, hk, hmT, rfl, rfl, HM⟩ := hrel
    by_cases hlt : k < len
    · have hlt' : (k : Int) < (len : Int) := by omega
      have hks : k < ss.length := by rw [HL.out]; exact hlt
      obtain ⟨b, o, rfl, hb, hc⟩ := HR.out.at k hks
      have hn : nsz (ss.take (k + 1)) = m + ss[k].size + 1 := by rw [take_snocT ss k hks, nsz_snoc, HM.out]
      have hle := nsz_le ss (k + 1)
      rw [hn, HT.out] at hle
      have HN : Hid (nsz (ss.take (k + 1)) = m + ss[k].size + 1) := hn
      clear hn
      generalize ss[k] = s at *
      go_wp2
      go_round
      case rel => exact ⟨k + 1, m + s.size + 1, by omega, hle, by go_num, by go_num, HN⟩
      case measure => simp [intOf]; omega
    · have hge : (len : Int) ≤ (k : Int) := by omega
      have e : m = T := by rw [← HM.out, ← HT.out, List.take_of_length_le (by rw [HL.out]; omega)]
      subst e
      go_wp2
      go_ret
      exact ⟨rfl, rfl⟩
set_option maxRecDepth 100000 in
set_option maxHeartbeats 1000000 in
theorem pcheck_eq (a : Option Addr) (len cap : Nat) (ss : List ByteArray) (w : World) (hr : RdT w a ss) (hl : ss.length = len) (hm : nsz ss ≤ 1000000000000000) (hlen : len ≤ 9223372036854775807) (hz : ∀ s ∈ ss, s.size ≤ 9223372036854775807) :
    Calls Tryz.prog 25 #[.slice a len cap] w fun e w' => e = .returned (.int .i64 (nck ss)) ∧ w' = w := by
  have HR : Hid (RdT w a ss ∧ ∀ s ∈ ss, s.size ≤ 9223372036854775807) := ⟨hr, hz⟩
  have HL : Hid (ss.length = len) := hl
  have HS : Hid (∀ W, RdT W a ss → Calls Tryz.prog 59 #[.slice a len cap] W fun e w' => e = .returned (.int .i64 (nsz ss)) ∧ w' = W) := fun W hW => psize_eq a len cap ss W hW hl hm
  obtain ⟨T, hT⟩ : ∃ T, nsz ss = T := ⟨_, rfl⟩
  have HT : Hid (nsz ss = T) := hT
  rw [hT] at hm HS
  clear hr hl hT hz
  go_enter Tryz.func25, Tryz.ntmps25
  go_wp2_with fail
  go_loopw [8] (fun x wr => ∃ k : Nat, k ≤ len ∧ x = .int .i64 k ∧ wr = w ∧ Hid (∀ i (h : i < ss.length), i < k → chk ss[i].size = 0)) (fun x _ => len - (intOf x).toNat)
  case atStart => exact ⟨0, Nat.zero_le _, rfl, rfl, fun i _ h => absurd h (by omega)⟩
  case round =>
    obtain ⟨k, hk, rfl, rfl, HK⟩ := hrel
    by_cases hlt : k < len
    · have hlt' : (k : Int) < (len : Int) := by omega
      have hks : k < ss.length := by rw [HL.out]; exact hlt
      obtain ⟨b, o, rfl, hb, hc⟩ := HR.out.1.at k hks
      have HC : Hid (∀ W, Calls Tryz.prog 58 #[.string ss[k]] W fun e w' => e = .returned (.int .i64 (chk ss[k].size)) ∧ w' = W) := fun W => chk_any ss[k] W (HR.out.2 _ (List.getElem_mem hks))
      rcases chk_cases ss[k].size with hk0 | hk4
      · have HN : Hid (∀ i (h : i < ss.length), i < k + 1 → chk ss[i].size = 0) := by
          intro i h hi
          by_cases e : i = k
          · subst e; exact hk0
          · exact HK.out i h (by omega)
        rw [hk0] at HC
        clear hk0 HK
        generalize ss[k] = s at *
        go_wp2_with fail
        refine (HC.out _).mono ?_
        rintro e w1 ⟨rfl, rfl⟩
        go_wp2
        exact ⟨⟨k + 1, by omega, by go_num, trivial, HN⟩, by simp [intOf]; omega⟩
      · have HE : Hid (nck ss = 4) := by
          show nck ss = 4
          unfold nck
          rw [if_neg (fun h => by have := h _ (List.getElem_mem hks); rw [hk4] at this; cases this)]
        rw [hk4] at HC
        clear hk4 HK
        generalize ss[k] = s at *
        go_wp2_with fail
        refine (HC.out _).mono ?_
        rintro e w1 ⟨rfl, rfl⟩
        go_wp2
        go_ret
        exact ⟨by rw [HE.out]; rfl, rfl⟩
    · have hge : (len : Int) ≤ (k : Int) := by omega
      have HO : Hid (labsOk ss) := by
        intro s hs
        obtain ⟨i, hi, rfl⟩ := List.getElem_of_mem hs
        exact HK.out i hi (by have := HL.out; omega)
      by_cases hb : 255 < T
      · have HE : Hid (nck ss = 5) := by show nck ss = 5; unfold nck; rw [if_pos HO.out, HT.out, if_pos hb]
        have hb' : (255 : Int) < (T : Int) := by omega
        clear HK HO
        go_wp2_with fail
        refine (HS.out _ HR.out.1).mono ?_
        rintro e w1 ⟨rfl, rfl⟩
        go_wp2
        go_ret
        exact ⟨by rw [HE.out]; rfl, rfl⟩
      · have HE : Hid (nck ss = 0) := by show nck ss = 0; unfold nck; rw [if_pos HO.out, HT.out, if_neg hb]
        have hb' : ¬ (255 : Int) < (T : Int) := by omega
        clear HK HO
        go_wp2_with fail
        refine (HS.out _ HR.out.1).mono ?_
        rintro e w1 ⟨rfl, rfl⟩
        go_wp2
        go_ret
        exact ⟨by rw [HE.out]; rfl, rfl⟩
theorem pm_check {a : Option Addr} {n : Nat} {ss : List ByteArray} {w : World} (c : Nat) (h : Nm w a n ss) : Calls Tryz.prog 25 #[.slice a n c] w fun e w' => e = .returned (.int .i64 (nck ss)) ∧ w' = w :=
  pcheck_eq a n c ss w h.rd h.len (by have := h.sz; omega) (by have := h.n63; omega) (fun s hs => by have := h.mem s hs; omega)
end Go.Proofs.YtfkfjodfjgjbkaaGreatDoor
namespace Go.Proofs.YtfkfjodfjgjbkaaGreatDoor
open Go.ChangeShapes Go.WideShapes Go.ChangeAt Go.RowKit
set_option linter.unusedVariables false
set_option linter.unusedSimpArgs false
theorem sum_snoc' (l : List Nat) (n : Nat) : (l ++ [n]).sum = l.sum + n := by simp
theorem sum_take' (l : List Nat) (k : Nat) : (l.take k).sum ≤ l.sum := by
  induction l generalizing k with
  | nil => simp
  | cons x l ih =>
    cases k with
    | zero => simp
    | succ k => simp; exact ih k
/-- What names and texts add up to. -/
def nsum (d : Dat) : Nat := (d.ns.map nsz).sum
def tz (s : ByteArray) : Nat := 1 + s.size
def tsum (d : Dat) : Nat := (d.ts.map tz).sum
/-- How many bytes data have, by fields. -/
def pszI (f : Fs) (d : Dat) : Int := ((f.wd * d.us.length : Nat) : Int) + (d.raw.length : Int) - (f.tl : Int) + (nsum d : Int) + (tsum d : Int)
set_option maxRecDepth 100000 in
set_option maxHeartbeats 4000000 in
theorem psize5_any (f : Fs) (x : DA) (d : Dat) (w : World) (h : DRd w x d) (htl : f.tl ≤ 1) (hB : f.wd * d.us.length + d.raw.length + nsum d + tsum d ≤ 1000000000000000) :
    Calls Tryz.prog 57 #[.agg #[.int .i64 f.nn, .int .i64 f.nf, .int .i64 f.nu, .int .i64 f.wd, .int .i64 f.nt, .int .i64 f.tg, .int .i64 f.tl, .int .i64 f.nr], .agg #[.slice x.p1.a x.p1.n x.p1.c, .slice x.p2.a x.p2.n x.p2.c, .slice x.p3.a x.p3.n x.p3.c, .slice x.p4.a x.p4.n x.p4.c]] w fun e w' => e = .returned (.int .i64 (pszI f d)) ∧ Hid (Below w.heap.size w w') := by
  have H : Hid (PtSt w ((w.alloc (.cells #[.int .i64 f.nn, .int .i64 f.nf, .int .i64 f.nu, .int .i64 f.wd, .int .i64 f.nt, .int .i64 f.tg, .int .i64 f.tl, .int .i64 f.nr] 90)).alloc (.cells #[.slice x.p1.a x.p1.n x.p1.c, .slice x.p2.a x.p2.n x.p2.c, .slice x.p3.a x.p3.n x.p3.c, .slice x.p4.a x.p4.n x.p4.c] 29)) w.heap.size f x d) := PtSt.new w f x d h
  have l1 := h.h1.len
  have l2 := h.h2.len
  have l3 := h.h3.len
  have l4 := h.h4.len
  have hc1 : x.p1.n ≤ 9223372036854775807 := Nat.le_trans h.h1.cap.1 h.h1.cap.2
  have hc3 : x.p3.n ≤ 9223372036854775807 := Nat.le_trans h.h3.cap.1 h.h3.cap.2
  clear h
  obtain ⟨nn, nf, nu, wd, nt, tg, tl, nr⟩ := f
  obtain ⟨⟨a1, n1, k1⟩, ⟨a2, n2, k2⟩, ⟨a3, n3, k3⟩, ⟨a4, n4, k4⟩⟩ := x
  simp only at H l1 l2 l3 l4 hc1 hc3 htl hB ⊢
  obtain ⟨Z, hZ⟩ : ∃ Z, pszI ⟨nn, nf, nu, wd, nt, tg, tl, nr⟩ d = Z := ⟨_, rfl⟩
  rw [hZ]
  obtain ⟨P, hP⟩ : ∃ P, wd * n2 = P := ⟨_, rfl⟩
  have HZ : Hid (Z = (P : Int) + (n4 : Int) - (tl : Int) + (nsum d : Int) + (tsum d : Int)) := by
    show Z = _
    rw [← hZ]
    unfold pszI
    rw [l4, l2, hP]
  have hB' : P + n4 + nsum d + tsum d ≤ 1000000000000000 := by rw [← hP, ← l2, ← l4]; exact hB
  have HL : Hid (d.ns.length = n1 ∧ d.ts.length = n3) := ⟨l1, l3⟩
  have hPi : (wd : Int) * (n2 : Int) = (P : Int) := by rw [← hP]; simp
  clear hZ l1 l2 l3 l4 hP hB
  have w1 : IntKind.i64.wrap ((wd : Int) * (n2 : Int)) = (P : Int) := by rw [hPi, IntKind.wrap_i64]; omega
  have w2 : IntKind.i64.wrap ((P : Int) + (n4 : Int)) = (P : Int) + (n4 : Int) := by rw [IntKind.wrap_i64]; omega
  have w2' : IntKind.i64.wrap ((P : Int) + (n4 : Int) - (tl : Int)) = (P : Int) + (n4 : Int) - (tl : Int) := by rw [IntKind.wrap_i64]; omega
  clear hPi
  go_enter Tryz.func57, Tryz.ntmps57
  go_upto_region 1 with fail
  generalize ((w.alloc (.cells #[.int .i64 nn, .int .i64 nf, .int .i64 nu, .int .i64 wd, .int .i64 nt, .int .i64 tg, .int .i64 tl, .int .i64 nr] 90)).alloc (.cells #[.slice a1 n1 k1, .slice a2 n2 k2, .slice a3 n3 k3, .slice a4 n4 k4] 29)) = W1 at *
  obtain ⟨b, hb⟩ : ∃ b, b = w.heap.size := ⟨_, rfl⟩
  rw [← hb] at H ⊢
  have Hb : Hid (b = w.heap.size) := hb
  clear hb
  have s3 := H.out.1.2.2.2.1
  have s6 := H.out.1.2.2.2.2.2.2.1
  have c0 := H.out.2.1.1
  have c1 := H.out.2.1.2.1
  have c3 := H.out.2.1.2.2.2.1
  simp only at s3 s6 c0 c1 c3
  go_wp2_with fail
  clear s3 s6 c1 c3 w1 w2 w2'
  go_loopw [5, 26] (fun v i wr => wr = W1 ∧ ∃ (k : Nat) (A : Int), k ≤ n1 ∧ i = .int .i64 (k : Int) ∧ v = .int .i64 A ∧ (-1 ≤ A ∧ A ≤ 1000000000000000) ∧ Hid (A = (P : Int) + (n4 : Int) - (tl : Int) + ((((d.ns.map nsz).take k).sum : Nat) : Int))) (fun _ i _ => n1 - (intOf i).toNat)
  case atStart => exact ⟨rfl, 0, (P : Int) + (n4 : Int) - (tl : Int), Nat.zero_le _, rfl, by first | rfl | simp, by omega, by show _ = _; simp⟩
  case round =>
    obtain ⟨hwr, k, A, hk, rfl, rfl, hA, HA⟩ := hrel
    subst hwr
    by_cases hlt : k < n1
    · have hlt' : (k : Int) < (n1 : Int) := by omega
      have hki : k < d.ns.length := by rw [HL.out.1]; exact hlt
      obtain ⟨B1, o1, ha1, hl1, z1, hz1, hr1⟩ := H.out.2.2.1.h1.at k hki
      simp only at ha1
      subst ha1
      have hsum : ((d.ns.map nsz).take (k + 1)).sum = ((d.ns.map nsz).take k).sum + nsz d.ns[k] := by
        rw [List.take_succ_eq_append_getElem (by simp; exact hki), sum_snoc']; simp
      have hle : ((d.ns.map nsz).take (k + 1)).sum ≤ nsum d := sum_take' (d.ns.map nsz) (k + 1)
      have hA2 := HA.out
      have HA2 : Hid (A + (nsz d.ns[k] : Int) = (P : Int) + (n4 : Int) - (tl : Int) + ((((d.ns.map nsz).take (k + 1)).sum : Nat) : Int)) := by show _ = _; omega
      have hb2 : A + (nsz d.ns[k] : Int) ≤ 1000000000000000 := by have := HA2.out; omega
      have KS : Hid (∀ W, W = wr → Calls Tryz.prog 59 #[.slice z1.a z1.n z1.c] W fun e w' => e = .returned (.int .i64 (nsz d.ns[k])) ∧ w' = W) := by
        intro W e
        subst e
        exact psize_eq z1.a z1.n z1.c d.ns[k] W hr1.rd hr1.len (by omega)
      clear hsum hle hA2 hr1 HA
      generalize nsz d.ns[k] = q at *
      generalize z1.a = za at *
      generalize z1.n = zn at *
      generalize z1.c = zc at *
      have w3 : IntKind.i64.wrap (A + (q : Int)) = A + (q : Int) := by rw [IntKind.wrap_i64]; omega
      go_wp2_with fail
      refine (KS.out _ rfl).mono ?_
      rintro e Wx ⟨rfl, rfl⟩
      go_wp2_with fail
      refine ⟨⟨by first | rfl | trivial, k + 1, A + (q : Int), by omega, by go_num, by first | rfl | go_num, by omega, HA2⟩, ?_⟩
      simp [intOf]; omega
    · have hge : ¬ (k : Int) < (n1 : Int) := by omega
      have HA1 : Hid (A = (P : Int) + (n4 : Int) - (tl : Int) + (nsum d : Int)) := by
        have := HA.out
        rwa [List.take_of_length_le (by simp; rw [HL.out.1]; omega)] at this
      clear HA
      have c2 := H.out.2.1.2.2.1
      simp only at c2
      clear c0
      go_wp2_with fail
      obtain ⟨wz, hz⟩ : ∃ z, z = wr := ⟨_, rfl⟩
      subst hz
      go_loopw [5, 38] (fun v i wr => wr = wz ∧ ∃ (j : Nat) (B : Int), j ≤ n3 ∧ i = .int .i64 (j : Int) ∧ v = .int .i64 B ∧ (-1 ≤ B ∧ B ≤ 1000000000000000) ∧ Hid (B = A + ((((d.ts.map tz).take j).sum : Nat) : Int))) (fun _ i _ => n3 - (intOf i).toNat)
      case atStart => exact ⟨rfl, 0, A, Nat.zero_le _, rfl, rfl, hA, by show _ = _; simp⟩
      case round =>
        obtain ⟨hwr, j, B, hj, rfl, rfl, hB2, HBB⟩ := hrel
        subst hwr
        by_cases hjt : j < n3
        · have hjt' : (j : Int) < (n3 : Int) := by omega
          have hji : j < d.ts.length := by rw [HL.out.2]; exact hjt
          obtain ⟨B3, o3, ha3, hl3, hy3⟩ := H.out.2.2.1.h3.rd.at j hji
          simp only at ha3
          subst ha3
          have hsum : ((d.ts.map tz).take (j + 1)).sum = ((d.ts.map tz).take j).sum + (1 + d.ts[j].size) := by
            rw [List.take_succ_eq_append_getElem (by simp; exact hji), sum_snoc']; simp [tz]
          have hle : ((d.ts.map tz).take (j + 1)).sum ≤ tsum d := sum_take' _ (j + 1)
          have hA2 := HBB.out
          have hA3 := HA1.out
          have HB3 : Hid (B + (1 + (d.ts[j].size : Int)) = A + ((((d.ts.map tz).take (j + 1)).sum : Nat) : Int)) := by show _ = _; omega
          have hb3 : B + (1 + (d.ts[j].size : Int)) ≤ 1000000000000000 := by have := HB3.out; omega
          clear hsum hle hA2 hA3 HBB
          obtain ⟨s, hs⟩ : ∃ s, s = d.ts[j] := ⟨_, rfl⟩
          rw [← hs] at HB3 hb3 hy3
          clear hs
          have w4 : IntKind.i64.wrap (1 + (s.size : Int)) = 1 + (s.size : Int) := by rw [IntKind.wrap_i64]; omega
          have w5 : IntKind.i64.wrap (B + (1 + (s.size : Int))) = B + (1 + (s.size : Int)) := by rw [IntKind.wrap_i64]; omega
          go_wp2_with fail
          refine ⟨⟨by first | rfl | trivial, j + 1, B + (1 + (s.size : Int)), by omega, by go_num, by first | rfl | go_num, by omega, HB3⟩, ?_⟩
          simp [intOf]; omega
        · have hge2 : ¬ (j : Int) < (n3 : Int) := by omega
          have HE : Hid (Z = B) := by
            have h1 := HBB.out
            rw [List.take_of_length_le (by simp; rw [HL.out.2]; omega)] at h1
            have h2 := HZ.out
            have h3 := HA1.out
            show Z = B
            have h4 : tsum d = (d.ts.map tz).sum := rfl
            omega
          clear HBB HA1
          go_wp2_with fail
          go_ret
          exact ⟨by rw [HE.out]; rfl, H.out.2.2.2⟩
end Go.Proofs.YtfkfjodfjgjbkaaGreatDoor
namespace Go.Proofs.YtfkfjodfjgjbkaaGreatDoor
open Go.ChangeShapes Go.WideShapes Go.ChangeAt Go.RowKit
set_option linter.unusedVariables false
set_option linter.unusedSimpArgs false
theorem dec_wd (wd : Nat) (h : wd = 1 ∨ wd = 2 ∨ wd = 4) (n : Nat) : decide (n / 2 ^ (8 * wd) = 0) = decide (n ≤ most wd) := by
  apply decide_eq_decide.2
  rcases h with rfl | rfl | rfl <;> simp [most] <;> omega
theorem fitB_ge (n : Nat) (c : Int) (h : 0 ≤ c) : fitB n c = decide ((n : Int) = c) := by
  unfold fitB
  rw [if_neg (by omega), if_neg (by omega)]
theorem nil_of {α : Type} {l : List α} (h : (l.length : Int) = 0) : l = [] := List.eq_nil_of_length_eq_zero (by omega)
set_option maxRecDepth 100000 in
set_option maxHeartbeats 1000000 in
theorem fit_eq (t : Nat) (d : Dat) : (cntB (fs t) d && wthB (fs t) d) = fitsB t d := by
  obtain ⟨ns, us, ts, raw⟩ := d
  rw [Bool.eq_iff_iff]
  unfold cntB wthB fitsB
  rcases fs_cases t with ⟨ht, e⟩ | ⟨ht, e⟩ | ⟨ht, e⟩ | ⟨ht, e⟩ | ⟨ht, e⟩ | ⟨ht, e⟩ | ⟨ht, e⟩ | ⟨ht, e⟩ | ⟨ht, e⟩
  · have es' : shp t = ⟨0, 0, 0, 4, 0⟩ := by subst ht; rfl
    have q1 : t ≠ 16 := by omega
    have q2 : t ≠ 257 := by omega
    rw [e, es']
    simp only [fitB_ge _ ((0 : Nat) : Int) (by omega), fitB_ge _ (0 : Int) (by omega), fitB_ge _ ((1 : Nat) : Int) (by omega), fitB_ge _ (4 : Int) (by omega), fitB_ge _ (16 : Int) (by omega), Bool.and_eq_true, Bool.or_eq_true, decide_eq_true_eq, List.all_eq_true]
    constructor
    · rintro ⟨⟨⟨⟨h1, h2⟩, h3⟩, h4⟩, _⟩
      obtain rfl := nil_of h2
      obtain rfl := nil_of h3
      exact ⟨⟨⟨⟨⟨⟨⟨by omega, rfl⟩, .inr rfl⟩, .inl (by omega)⟩, .inr (by omega)⟩, by simp⟩, .inl q1⟩, .inl q2⟩
    · rintro ⟨⟨⟨⟨⟨⟨⟨h1, h2⟩, h3⟩, _⟩, h4⟩, _⟩, _⟩, _⟩
      obtain rfl := List.eq_nil_of_length_eq_zero h2
      obtain rfl := nil_of (l := ts) (by omega)
      exact ⟨⟨⟨⟨by omega, rfl⟩, rfl⟩, by omega⟩, ⟨by simp, by simp⟩, by simp⟩
  · have es' : shp t = ⟨0, 0, 0, 16, 0⟩ := by subst ht; rfl
    have q1 : t ≠ 16 := by omega
    have q2 : t ≠ 257 := by omega
    rw [e, es']
    simp only [fitB_ge _ ((0 : Nat) : Int) (by omega), fitB_ge _ (0 : Int) (by omega), fitB_ge _ ((1 : Nat) : Int) (by omega), fitB_ge _ (4 : Int) (by omega), fitB_ge _ (16 : Int) (by omega), Bool.and_eq_true, Bool.or_eq_true, decide_eq_true_eq, List.all_eq_true]
    constructor
    · rintro ⟨⟨⟨⟨h1, h2⟩, h3⟩, h4⟩, _⟩
      obtain rfl := nil_of h2
      obtain rfl := nil_of h3
      exact ⟨⟨⟨⟨⟨⟨⟨by omega, rfl⟩, .inr rfl⟩, .inl (by omega)⟩, .inr (by omega)⟩, by simp⟩, .inl q1⟩, .inl q2⟩
    · rintro ⟨⟨⟨⟨⟨⟨⟨h1, h2⟩, h3⟩, _⟩, h4⟩, _⟩, _⟩, _⟩
      obtain rfl := List.eq_nil_of_length_eq_zero h2
      obtain rfl := nil_of (l := ts) (by omega)
      exact ⟨⟨⟨⟨by omega, rfl⟩, rfl⟩, by omega⟩, ⟨by simp, by simp⟩, by simp⟩
  · have es' : shp t = ⟨1, 0, 0, 0, 0⟩ := by rcases ht with rfl | rfl | rfl <;> rfl
    have q1 : t ≠ 16 := by omega
    have q2 : t ≠ 257 := by omega
    rw [e, es']
    simp only [fitB_ge _ ((0 : Nat) : Int) (by omega), fitB_ge _ (0 : Int) (by omega), fitB_ge _ ((1 : Nat) : Int) (by omega), fitB_ge _ (4 : Int) (by omega), fitB_ge _ (16 : Int) (by omega), Bool.and_eq_true, Bool.or_eq_true, decide_eq_true_eq, List.all_eq_true]
    constructor
    · rintro ⟨⟨⟨⟨h1, h2⟩, h3⟩, h4⟩, _⟩
      obtain rfl := nil_of h2
      obtain rfl := nil_of h3
      exact ⟨⟨⟨⟨⟨⟨⟨by omega, rfl⟩, .inr rfl⟩, .inl (by omega)⟩, .inr (by omega)⟩, by simp⟩, .inl q1⟩, .inl q2⟩
    · rintro ⟨⟨⟨⟨⟨⟨⟨h1, h2⟩, h3⟩, _⟩, h4⟩, _⟩, _⟩, _⟩
      obtain rfl := List.eq_nil_of_length_eq_zero h2
      obtain rfl := nil_of (l := ts) (by omega)
      exact ⟨⟨⟨⟨by omega, rfl⟩, rfl⟩, by omega⟩, ⟨by simp, by simp⟩, by simp⟩
  · have es' : shp t = ⟨2, 5, 0, 0, 4⟩ := by subst ht; rfl
    have q1 : t ≠ 16 := by omega
    have q2 : t ≠ 257 := by omega
    have hd := dec_wd 4 (by simp)
    rw [e, es']
    simp only [hd, fitB_ge _ ((0 : Nat) : Int) (by omega), fitB_ge _ (0 : Int) (by omega), fitB_ge _ ((1 : Nat) : Int) (by omega), fitB_ge _ ((2 : Nat) : Int) (by omega), fitB_ge _ ((3 : Nat) : Int) (by omega), fitB_ge _ ((5 : Nat) : Int) (by omega), Bool.and_eq_true, Bool.or_eq_true, decide_eq_true_eq, List.all_eq_true]
    constructor
    · rintro ⟨⟨⟨⟨h1, h2⟩, h3⟩, h4⟩, ⟨h5, _⟩, _⟩
      obtain rfl := nil_of h3
      obtain rfl := nil_of h4
      exact ⟨⟨⟨⟨⟨⟨⟨by omega, by omega⟩, .inr rfl⟩, .inl (by omega)⟩, .inr rfl⟩, h5⟩, .inl q1⟩, .inl q2⟩
    · rintro ⟨⟨⟨⟨⟨⟨⟨h1, h2⟩, h3⟩, _⟩, h4⟩, h5⟩, _⟩, _⟩
      obtain rfl := nil_of (l := ts) (by omega)
      obtain rfl := nil_of (l := raw) (by omega)
      exact ⟨⟨⟨⟨by omega, by omega⟩, rfl⟩, rfl⟩, ⟨h5, by simp⟩, by simp⟩
  · have es' : shp t = ⟨1, 1, 0, 0, 2⟩ := by subst ht; rfl
    have q1 : t ≠ 16 := by omega
    have q2 : t ≠ 257 := by omega
    have hd := dec_wd 2 (by simp)
    rw [e, es']
    simp only [hd, fitB_ge _ ((0 : Nat) : Int) (by omega), fitB_ge _ (0 : Int) (by omega), fitB_ge _ ((1 : Nat) : Int) (by omega), fitB_ge _ ((2 : Nat) : Int) (by omega), fitB_ge _ ((3 : Nat) : Int) (by omega), fitB_ge _ ((5 : Nat) : Int) (by omega), Bool.and_eq_true, Bool.or_eq_true, decide_eq_true_eq, List.all_eq_true]
    constructor
    · rintro ⟨⟨⟨⟨h1, h2⟩, h3⟩, h4⟩, ⟨h5, _⟩, _⟩
      obtain rfl := nil_of h3
      obtain rfl := nil_of h4
      exact ⟨⟨⟨⟨⟨⟨⟨by omega, by omega⟩, .inr rfl⟩, .inl (by omega)⟩, .inr rfl⟩, h5⟩, .inl q1⟩, .inl q2⟩
    · rintro ⟨⟨⟨⟨⟨⟨⟨h1, h2⟩, h3⟩, _⟩, h4⟩, h5⟩, _⟩, _⟩
      obtain rfl := nil_of (l := ts) (by omega)
      obtain rfl := nil_of (l := raw) (by omega)
      exact ⟨⟨⟨⟨by omega, by omega⟩, rfl⟩, rfl⟩, ⟨h5, by simp⟩, by simp⟩
  · have es' : shp t = ⟨1, 3, 0, 0, 2⟩ := by subst ht; rfl
    have q1 : t ≠ 16 := by omega
    have q2 : t ≠ 257 := by omega
    have hd := dec_wd 2 (by simp)
    rw [e, es']
    simp only [hd, fitB_ge _ ((0 : Nat) : Int) (by omega), fitB_ge _ (0 : Int) (by omega), fitB_ge _ ((1 : Nat) : Int) (by omega), fitB_ge _ ((2 : Nat) : Int) (by omega), fitB_ge _ ((3 : Nat) : Int) (by omega), fitB_ge _ ((5 : Nat) : Int) (by omega), Bool.and_eq_true, Bool.or_eq_true, decide_eq_true_eq, List.all_eq_true]
    constructor
    · rintro ⟨⟨⟨⟨h1, h2⟩, h3⟩, h4⟩, ⟨h5, _⟩, _⟩
      obtain rfl := nil_of h3
      obtain rfl := nil_of h4
      exact ⟨⟨⟨⟨⟨⟨⟨by omega, by omega⟩, .inr rfl⟩, .inl (by omega)⟩, .inr rfl⟩, h5⟩, .inl q1⟩, .inl q2⟩
    · rintro ⟨⟨⟨⟨⟨⟨⟨h1, h2⟩, h3⟩, _⟩, h4⟩, h5⟩, _⟩, _⟩
      obtain rfl := nil_of (l := ts) (by omega)
      obtain rfl := nil_of (l := raw) (by omega)
      exact ⟨⟨⟨⟨by omega, by omega⟩, rfl⟩, rfl⟩, ⟨h5, by simp⟩, by simp⟩
  · have es' : shp t = ⟨0, 0, -1, 0, 0⟩ := by subst ht; rfl
    have q2 : t ≠ 257 := by omega
    rw [e, es']
    have f1 : fitB ts.length (-1) = decide (0 < ts.length) := by simp [fitB]
    simp only [f1, fitB_ge _ ((0 : Nat) : Int) (by omega), fitB_ge _ (0 : Int) (by omega), Bool.and_eq_true, Bool.or_eq_true, decide_eq_true_eq, List.all_eq_true]
    constructor
    · rintro ⟨⟨⟨⟨h1, h2⟩, h3⟩, h4⟩, _, h5⟩
      obtain rfl := nil_of h2
      obtain rfl := nil_of h4
      exact ⟨⟨⟨⟨⟨⟨⟨by omega, rfl⟩, .inl (by omega)⟩, .inr (by omega)⟩, .inr rfl⟩, by simp⟩, .inr (by simpa using h5)⟩, .inl q2⟩
    · rintro ⟨⟨⟨⟨⟨⟨⟨h1, h2⟩, h3⟩, h6⟩, h4⟩, h5⟩, h7⟩, _⟩
      obtain rfl := List.eq_nil_of_length_eq_zero h2
      obtain rfl := nil_of (l := raw) (by omega)
      exact ⟨⟨⟨⟨by omega, rfl⟩, by omega⟩, rfl⟩, ⟨by simp, by simp⟩, by have := h7.resolve_left (fun hh => hh ht); simpa using this⟩
  · have es' : shp t = ⟨0, 1, 2, 0, 1⟩ := by subst ht; rfl
    have q1 : t ≠ 16 := by omega
    have hd := dec_wd 1 (by simp)
    rw [e, es']
    simp only [hd, fitB_ge _ ((0 : Nat) : Int) (by omega), fitB_ge _ (0 : Int) (by omega), fitB_ge _ ((1 : Nat) : Int) (by omega), fitB_ge _ (2 : Int) (by omega), Bool.and_eq_true, Bool.or_eq_true, decide_eq_true_eq, List.all_eq_true]
    constructor
    · rintro ⟨⟨⟨⟨h1, h2⟩, h3⟩, h4⟩, ⟨h5, h6⟩, h7⟩
      rcases ts with _ | ⟨a, _ | ⟨b, _ | ⟨c, ts⟩⟩⟩
      · simp at h3
      · simp at h3
      · obtain rfl := nil_of h4
        exact ⟨⟨⟨⟨⟨⟨⟨by omega, by omega⟩, .inr rfl⟩, .inl (by omega)⟩, .inr rfl⟩, h5⟩, .inl q1⟩, .inr (h6 a (by simp))⟩
      · simp at h3; omega
    · rintro ⟨⟨⟨⟨⟨⟨⟨h1, h2⟩, h3⟩, _⟩, h4⟩, h5⟩, _⟩, h8⟩
      rcases ts with _ | ⟨a, _ | ⟨b, _ | ⟨c, ts⟩⟩⟩
      · simp at h3
      · simp at h3
      · obtain rfl := nil_of (l := raw) (by omega)
        have hta : tagB a = true := by have := h8.resolve_left (fun hh => hh ht); simpa using this
        have ha : a.size ≤ 255 := by simp [tagB] at hta; omega
        refine ⟨⟨⟨⟨by omega, by omega⟩, by simp⟩, rfl⟩, ⟨h5, by simp [hta]⟩, by simp [ha]⟩
      · simp at h3; omega
  · obtain ⟨h1, h2, h3, h4, h5, h6, h7, h8, h9, h10⟩ := ht
    have es' : shp t = ⟨0, 0, 0, -1, 0⟩ := by unfold shp; simp [h1, h2, h3, h4, h5, h6, h7, h8, h9, h10]
    rw [e, es']
    have f1 : fitB raw.length (-2) = true := by simp [fitB]
    simp only [f1, fitB_ge _ ((0 : Nat) : Int) (by omega), fitB_ge _ (0 : Int) (by omega), Bool.and_eq_true, Bool.or_eq_true, decide_eq_true_eq, List.all_eq_true]
    constructor
    · rintro ⟨⟨⟨⟨i1, i2⟩, i3⟩, i4⟩, _⟩
      obtain rfl := nil_of i2
      obtain rfl := nil_of i3
      exact ⟨⟨⟨⟨⟨⟨⟨by omega, rfl⟩, .inr rfl⟩, .inl (by omega)⟩, .inl (by omega)⟩, by simp⟩, .inl h9⟩, .inl h10⟩
    · rintro ⟨⟨⟨⟨⟨⟨⟨i1, i2⟩, i3⟩, _⟩, i4⟩, _⟩, _⟩, _⟩
      obtain rfl := List.eq_nil_of_length_eq_zero i2
      obtain rfl := nil_of (l := ts) (by omega)
      exact ⟨⟨⟨⟨by omega, rfl⟩, rfl⟩, trivial⟩, ⟨by simp, by simp⟩, by simp⟩
theorem tsum_nby (l : List ByteArray) : (l.map tz).sum = (nby l).length := by
  induction l with
  | nil => simp [nby]
  | cons a l ih =>
    have e : nby (a :: l) = (a.size : Int) :: (nums a ++ nby l) := by simp [nby]
    rw [e]
    simp [ih, nums_len, tz]
    omega
set_option maxRecDepth 100000 in
set_option maxHeartbeats 1000000 in
theorem psz_eq (t : Nat) (d : Dat) (h : fitsB t d = true) : pszI (fs t) d = (sizesF t d : Nat) := by
  obtain ⟨ns, us, ts, raw⟩ := d
  unfold fitsB at h
  unfold pszI sizesF nsum tsum
  simp only [Bool.and_eq_true, Bool.or_eq_true, decide_eq_true_eq] at h ⊢
  obtain ⟨⟨⟨⟨⟨⟨⟨h1, h2⟩, h3⟩, h6⟩, h4⟩, h5⟩, h7⟩, h8⟩ := h
  have key : (shp t).wd = (fs t).wd ∧ ((((fs t).tl = 0 ∧ t ≠ 257) ∧ (t = 16 ∨ ((shp t).nt = 0))) ∨ ((fs t).tl = 1 ∧ t = 257 ∧ (shp t).nt = 2)) := by
    rcases fs_cases t with ⟨ht, e⟩ | ⟨ht, e⟩ | ⟨ht, e⟩ | ⟨ht, e⟩ | ⟨ht, e⟩ | ⟨ht, e⟩ | ⟨ht, e⟩ | ⟨ht, e⟩ | ⟨ht, e⟩
    · subst ht; exact ⟨rfl, .inl ⟨⟨rfl, by omega⟩, .inr rfl⟩⟩
    · subst ht; exact ⟨rfl, .inl ⟨⟨rfl, by omega⟩, .inr rfl⟩⟩
    · rcases ht with rfl | rfl | rfl <;> exact ⟨rfl, .inl ⟨⟨rfl, by omega⟩, .inr rfl⟩⟩
    · subst ht; exact ⟨rfl, .inl ⟨⟨rfl, by omega⟩, .inr rfl⟩⟩
    · subst ht; exact ⟨rfl, .inl ⟨⟨rfl, by omega⟩, .inr rfl⟩⟩
    · subst ht; exact ⟨rfl, .inl ⟨⟨rfl, by omega⟩, .inr rfl⟩⟩
    · subst ht; exact ⟨rfl, .inl ⟨⟨rfl, by omega⟩, .inl rfl⟩⟩
    · subst ht; exact ⟨rfl, .inr ⟨rfl, rfl, rfl⟩⟩
    · obtain ⟨i1, i2, i3, i4, i5, i6, i7, i8, i9, i10⟩ := ht
      have es' : shp t = ⟨0, 0, 0, -1, 0⟩ := by unfold shp; simp [i1, i2, i3, i4, i5, i6, i7, i8, i9, i10]
      rw [e, es']
      exact ⟨rfl, .inl ⟨⟨rfl, i10⟩, .inr rfl⟩⟩
  obtain ⟨kw, kt⟩ := key
  rw [kw, tsum_nby, Nat.mul_comm us.length]
  rcases kt with ⟨⟨k1, k2⟩, k3⟩ | ⟨k1, k2, k3⟩
  · rw [k1]
    rcases k3 with k3 | k3
    · have : tsz t ts = (nby ts).length := by unfold tsz; rw [if_pos k3]
      rw [this]; omega
    · have hz : ts = [] := nil_of (by omega)
      subst hz
      have : tsz t [] = 0 := by unfold tsz; split <;> simp [nby]
      rw [this]; simp [nby]; omega
  · rw [k1]
    rcases ts with _ | ⟨a, _ | ⟨b, _ | ⟨c, ts⟩⟩⟩
    · simp at h3; omega
    · simp at h3; omega
    · have : tsz t [a, b] = a.size + 1 + b.size := by unfold tsz; rw [if_neg (by omega)]; simp [nums_len]
      rw [this]
      have : (nby [a, b]).length = a.size + 1 + (b.size + 1) := by simp [nby, nums_len]; omega
      rw [this]; omega
    · simp at h3; omega
end Go.Proofs.YtfkfjodfjgjbkaaGreatDoor
namespace Go.Proofs.YtfkfjodfjgjbkaaGreatDoor
open Go.ChangeShapes Go.WideShapes Go.ChangeAt Go.RowKit
set_option linter.unusedVariables false
set_option linter.unusedSimpArgs false
set_option maxRecDepth 100000 in
set_option maxHeartbeats 1000000 in
theorem pcheck_wide (a : Option Addr) (len cap : Nat) (ss : List ByteArray) (w : World) (hr : RdT w a ss) (hl : ss.length = len) (hm : labsOk ss → nsz ss ≤ 1000000000000000) (hlen : len ≤ 9223372036854775807) (hz : ∀ s ∈ ss, s.size ≤ 9223372036854775807) :
    Calls Tryz.prog 25 #[.slice a len cap] w fun e w' => e = .returned (.int .i64 (nck ss)) ∧ w' = w := by
  have HR : Hid (RdT w a ss ∧ ∀ s ∈ ss, s.size ≤ 9223372036854775807) := ⟨hr, hz⟩
  have HL : Hid (ss.length = len) := hl
  have HS : Hid (labsOk ss → ∀ W, RdT W a ss → Calls Tryz.prog 59 #[.slice a len cap] W fun e w' => e = .returned (.int .i64 (nsz ss)) ∧ w' = W) := fun ho W hW => psize_eq a len cap ss W hW hl (hm ho)
  obtain ⟨T, hT⟩ : ∃ T, nsz ss = T := ⟨_, rfl⟩
  have HT : Hid (nsz ss = T) := hT
  rw [hT] at HS
  clear hr hl hT hz hm
  go_enter Tryz.func25, Tryz.ntmps25
  go_wp2_with fail
  go_loopw [8] (fun x wr => ∃ k : Nat, k ≤ len ∧ x = .int .i64 k ∧ wr = w ∧ Hid (∀ i (h : i < ss.length), i < k → chk ss[i].size = 0)) (fun x _ => len - (intOf x).toNat)
  case atStart => exact ⟨0, Nat.zero_le _, rfl, rfl, fun i _ h => absurd h (by omega)⟩
  case round =>
    obtain ⟨k, hk, rfl, rfl, HK⟩ := hrel
    by_cases hlt : k < len
    · have hlt' : (k : Int) < (len : Int) := by omega
      have hks : k < ss.length := by rw [HL.out]; exact hlt
      obtain ⟨b, o, rfl, hb, hc⟩ := HR.out.1.at k hks
      have HC : Hid (∀ W, Calls Tryz.prog 58 #[.string ss[k]] W fun e w' => e = .returned (.int .i64 (chk ss[k].size)) ∧ w' = W) := fun W => chk_any ss[k] W (HR.out.2 _ (List.getElem_mem hks))
      rcases chk_cases ss[k].size with hk0 | hk4
      · have HN : Hid (∀ i (h : i < ss.length), i < k + 1 → chk ss[i].size = 0) := by
          intro i h hi
          by_cases e : i = k
          · subst e; exact hk0
          · exact HK.out i h (by omega)
        rw [hk0] at HC
        clear hk0 HK
        generalize ss[k] = s at *
        go_wp2_with fail
        refine (HC.out _).mono ?_
        rintro e w1 ⟨rfl, rfl⟩
        go_wp2
        exact ⟨⟨k + 1, by omega, by go_num, trivial, HN⟩, by simp [intOf]; omega⟩
      · have HE : Hid (nck ss = 4) := by
          show nck ss = 4
          unfold nck
          rw [if_neg (fun h => by have := h _ (List.getElem_mem hks); rw [hk4] at this; cases this)]
        rw [hk4] at HC
        clear hk4 HK
        generalize ss[k] = s at *
        go_wp2_with fail
        refine (HC.out _).mono ?_
        rintro e w1 ⟨rfl, rfl⟩
        go_wp2
        go_ret
        exact ⟨by rw [HE.out]; rfl, rfl⟩
    · have hge : (len : Int) ≤ (k : Int) := by omega
      have HO : Hid (labsOk ss) := by
        intro s hs
        obtain ⟨i, hi, rfl⟩ := List.getElem_of_mem hs
        exact HK.out i hi (by have := HL.out; omega)
      by_cases hb : 255 < T
      · have HE : Hid (nck ss = 5) := by show nck ss = 5; unfold nck; rw [if_pos HO.out, HT.out, if_pos hb]
        have hb' : (255 : Int) < (T : Int) := by omega
        clear HK
        go_wp2_with fail
        refine (HS.out HO.out _ HR.out.1).mono ?_
        rintro e w1 ⟨rfl, rfl⟩
        go_wp2
        go_ret
        exact ⟨by rw [HE.out]; rfl, rfl⟩
      · have HE : Hid (nck ss = 0) := by show nck ss = 0; unfold nck; rw [if_pos HO.out, HT.out, if_neg hb]
        have hb' : ¬ (255 : Int) < (T : Int) := by omega
        clear HK
        go_wp2_with fail
        refine (HS.out HO.out _ HR.out.1).mono ?_
        rintro e w1 ⟨rfl, rfl⟩
        go_wp2
        go_ret
        exact ⟨by rw [HE.out]; rfl, rfl⟩
end Go.Proofs.YtfkfjodfjgjbkaaGreatDoor
namespace Go.Proofs.YtfkfjodfjgjbkaaGreatDoor
open Go.ChangeShapes Go.WideShapes Go.ChangeAt Go.RowKit
set_option linter.unusedVariables false
set_option linter.unusedSimpArgs false
theorem nsErr_drop' (l : List (List ByteArray)) (k : Nat) (h : ∀ n ∈ l.take k, nck n = 0) : nsErr l = nsErr (l.drop k) := by
  induction l generalizing k with
  | nil => simp
  | cons x l ih =>
    cases k with
    | zero => simp
    | succ k =>
      have h0 : nck x = 0 := h x (by simp)
      simp only [nsErr, List.drop_succ_cons]
      rw [if_pos h0]
      exact ih k (fun n hn => h n (by simp [hn]))
/-- Data within what a machine can add up. -/
structure Bd (d : Dat) : Prop where
  n : d.ns.length ≤ 1000
  nl : ∀ x ∈ d.ns, x.length ≤ 1000000
  u : d.us.length ≤ 1000
  t : tsum d ≤ 1000000000000
  r : d.raw.length ≤ 1000000000000
theorem sum_le (l : List Nat) (m : Nat) (h : ∀ x ∈ l, x ≤ m) : l.sum ≤ l.length * m := by
  induction l with
  | nil => simp
  | cons a l ih =>
    have h1 := h a (by simp)
    have h2 := ih (fun x hx => h x (by simp [hx]))
    simp only [List.sum_cons, List.length_cons, Nat.succ_mul]
    omega
theorem Small.bd {d : Dat} (h : Small d) : Bd d := by
  have h1 := h.n
  have h2 := h.u
  have h3 := h.r
  refine ⟨by omega, fun x hx => by have := h.nl x hx; omega, by omega, ?_, by omega⟩
  have h4 := sum_le (d.ts.map tz) 301 (by
    intro x hx
    obtain ⟨s, hs, rfl⟩ := List.mem_map.1 hx
    have := h.tl s hs
    simp only [tz]; omega)
  have h5 := h.t
  rw [List.length_map] at h4
  have h6 : d.ts.length * 301 ≤ 300 * 301 := Nat.mul_le_mul_right _ h5
  unfold tsum
  omega
theorem nsz_labs (ss : List ByteArray) (h : labsOk ss) : nsz ss ≤ 64 * ss.length + 1 := by
  have h1 : (nby ss).length ≤ 64 * ss.length := by
    induction ss with
    | nil => simp [nby]
    | cons a l ih =>
      have e : nby (a :: l) = (a.size : Int) :: (nums a ++ nby l) := by simp [nby]
      have h0 := h a (by simp)
      have h2 := ih (fun x hx => h x (by simp [hx]))
      have h3 : a.size ≤ 63 := by unfold chk at h0; split at h0 <;> simp_all <;> omega
      rw [e]
      simp [nums_len]
      omega
  have := nby_len ss
  omega
theorem nsErr_zero {l : List (List ByteArray)} (h : nsErr l = 0) : ∀ n ∈ l, nck n = 0 := by
  induction l with
  | nil => simp
  | cons a l ih =>
    simp only [nsErr] at h
    by_cases ha : nck a = 0
    · rw [if_pos ha] at h
      intro n hn
      rcases List.mem_cons.1 hn with rfl | hn
      · exact ha
      · exact ih h n hn
    · rw [if_neg ha] at h; exact absurd h ha
theorem fs_wd (t : Nat) : (fs t).wd = 0 ∨ (fs t).wd = 1 ∨ (fs t).wd = 2 ∨ (fs t).wd = 4 := by
  rcases fs_cases t with ⟨_, e⟩ | ⟨_, e⟩ | ⟨_, e⟩ | ⟨_, e⟩ | ⟨_, e⟩ | ⟨_, e⟩ | ⟨_, e⟩ | ⟨_, e⟩ | ⟨_, e⟩ <;> rw [e] <;> simp
theorem fs_tl (t : Nat) : (fs t).tl ≤ 1 := by
  rcases fs_cases t with ⟨_, e⟩ | ⟨_, e⟩ | ⟨_, e⟩ | ⟨_, e⟩ | ⟨_, e⟩ | ⟨_, e⟩ | ⟨_, e⟩ | ⟨_, e⟩ | ⟨_, e⟩ <;> rw [e] <;> simp
theorem fs_tags (t : Nat) (d : Dat) (h : cntB (fs t) d = true) : (fs t).tg ≤ d.ts.length ∧ (fs t).tl ≤ d.ts.length := by
  unfold cntB at h
  simp only [Bool.and_eq_true] at h
  obtain ⟨⟨⟨_, _⟩, h⟩, _⟩ := h
  rcases fs_cases t with ⟨_, e⟩ | ⟨_, e⟩ | ⟨_, e⟩ | ⟨_, e⟩ | ⟨_, e⟩ | ⟨_, e⟩ | ⟨_, e⟩ | ⟨_, e⟩ | ⟨_, e⟩ <;> rw [e] at h ⊢ <;> simp
  simp only at h
  rw [fitB_ge _ _ (by omega)] at h
  simp at h
  omega
/-- Data and fields, each in a block of its own, the one at b, the other at g. -/
def PkSt (w W : World) (b g : Nat) (f : Fs) (x : DA) (d : Dat) : Prop := DBox W b x ∧ FBox W g f ∧ DRd W x d ∧ Below w.heap.size w W
theorem PkSt.go {w W W' : World} {b g : Nat} {f : Fs} {x : DA} {d : Dat} (h : PkSt w W b g f x d) (hb : Below W.heap.size W W') : PkSt w W' b g f x d :=
  ⟨h.1.below hb, h.2.1.below hb, h.2.2.1.below hb, h.2.2.2.trans (hb.mono h.2.2.2.size)⟩
theorem PkSt.new {w W : World} {b : Nat} (f : Fs) {x : DA} {d : Dat} (h1 : DBox W b x) (h2 : DRd W x d) (h3 : Below w.heap.size w W) : PkSt w (W.alloc (.cells #[.int .i64 f.nn, .int .i64 f.nf, .int .i64 f.nu, .int .i64 f.wd, .int .i64 f.nt, .int .i64 f.tg, .int .i64 f.tl, .int .i64 f.nr] 90)) b W.heap.size f x d := by
  have hb : Below W.heap.size W (W.alloc (.cells #[.int .i64 f.nn, .int .i64 f.nf, .int .i64 f.nu, .int .i64 f.wd, .int .i64 f.nt, .int .i64 f.tg, .int .i64 f.tl, .int .i64 f.nr] 90)) := (Below.refl _ _).alloc (Nat.le_refl _) _
  exact ⟨h1.below hb, FBox.new W f, h2.below hb, h3.trans (hb.mono h3.size)⟩
set_option maxRecDepth 100000 in
set_option maxHeartbeats 4000000 in
theorem check_any (t : Nat) (x : DA) (d : Dat) (w : World) (h : DRd w x d) (hB : Bd d) :
    Calls Tryz.prog 24 #[.int .u16 t, .agg #[.slice x.p1.a x.p1.n x.p1.c, .slice x.p2.a x.p2.n x.p2.c, .slice x.p3.a x.p3.n x.p3.c, .slice x.p4.a x.p4.n x.p4.c]] w fun e w' => e = .returned (.int .i64 (checkF t d)) ∧ Hid (Below w.heap.size w w') := by
  have hb0 : Below w.heap.size w (w.alloc (.cells #[.slice x.p1.a x.p1.n x.p1.c, .slice x.p2.a x.p2.n x.p2.c, .slice x.p3.a x.p3.n x.p3.c, .slice x.p4.a x.p4.n x.p4.c] 29)) := (Below.refl _ _).alloc (Nat.le_refl _) _
  have H : Hid (DBox (w.alloc (.cells #[.slice x.p1.a x.p1.n x.p1.c, .slice x.p2.a x.p2.n x.p2.c, .slice x.p3.a x.p3.n x.p3.c, .slice x.p4.a x.p4.n x.p4.c] 29)) w.heap.size x ∧ DRd (w.alloc (.cells #[.slice x.p1.a x.p1.n x.p1.c, .slice x.p2.a x.p2.n x.p2.c, .slice x.p3.a x.p3.n x.p3.c, .slice x.p4.a x.p4.n x.p4.c] 29)) x d ∧ Below w.heap.size w (w.alloc (.cells #[.slice x.p1.a x.p1.n x.p1.c, .slice x.p2.a x.p2.n x.p2.c, .slice x.p3.a x.p3.n x.p3.c, .slice x.p4.a x.p4.n x.p4.c] 29))) := ⟨DBox.new w x, h.below hb0, hb0⟩
  have KC : Hid (∀ W, DRd W x d → Calls Tryz.prog 55 #[.agg #[.int .i64 (fs t).nn, .int .i64 (fs t).nf, .int .i64 (fs t).nu, .int .i64 (fs t).wd, .int .i64 (fs t).nt, .int .i64 (fs t).tg, .int .i64 (fs t).tl, .int .i64 (fs t).nr], .agg #[.slice x.p1.a x.p1.n x.p1.c, .slice x.p2.a x.p2.n x.p2.c, .slice x.p3.a x.p3.n x.p3.c, .slice x.p4.a x.p4.n x.p4.c]] W fun e w' => e = .returned (.bool (cntB (fs t) d)) ∧ Hid (Below W.heap.size W w')) := fun W hd => counted_any (fs t) x d W hd
  have KW : Hid (cntB (fs t) d = true → ∀ W, DRd W x d → Calls Tryz.prog 56 #[.agg #[.int .i64 (fs t).nn, .int .i64 (fs t).nf, .int .i64 (fs t).nu, .int .i64 (fs t).wd, .int .i64 (fs t).nt, .int .i64 (fs t).tg, .int .i64 (fs t).tl, .int .i64 (fs t).nr], .agg #[.slice x.p1.a x.p1.n x.p1.c, .slice x.p2.a x.p2.n x.p2.c, .slice x.p3.a x.p3.n x.p3.c, .slice x.p4.a x.p4.n x.p4.c]] W fun e w' => e = .returned (.bool (wthB (fs t) d)) ∧ Hid (Below W.heap.size W w')) := fun hc W hd => within_any (fs t) x d W hd (fs_wd t) (fs_tags t d hc).1 (fs_tags t d hc).2
  have KZ : Hid (cntB (fs t) d = true → wthB (fs t) d = true → nsErr d.ns = 0 → ∀ W, DRd W x d → Calls Tryz.prog 57 #[.agg #[.int .i64 (fs t).nn, .int .i64 (fs t).nf, .int .i64 (fs t).nu, .int .i64 (fs t).wd, .int .i64 (fs t).nt, .int .i64 (fs t).tg, .int .i64 (fs t).tl, .int .i64 (fs t).nr], .agg #[.slice x.p1.a x.p1.n x.p1.c, .slice x.p2.a x.p2.n x.p2.c, .slice x.p3.a x.p3.n x.p3.c, .slice x.p4.a x.p4.n x.p4.c]] W fun e w' => e = .returned (.int .i64 (sizesF t d : Nat)) ∧ Hid (Below W.heap.size W w')) := by
    intro h1 h2 h3 W hd
    have h4 : fitsB t d = true := by rw [← fit_eq, h1, h2]; rfl
    rw [← psz_eq t d h4]
    refine psize5_any (fs t) x d W hd (fs_tl t) ?_
    have h5 : nsum d ≤ 1000 * 255 := by
      have := sum_le (d.ns.map nsz) 255 (by
        intro y hy
        obtain ⟨n, hn, rfl⟩ := List.mem_map.1 hy
        exact (nck_small (nsErr_zero h3 n hn)).1)
      rw [List.length_map] at this
      have h6 : d.ns.length * 255 ≤ 1000 * 255 := Nat.mul_le_mul_right _ hB.n
      unfold nsum
      omega
    have h7 : (fs t).wd * d.us.length ≤ 4 * 1000 := Nat.mul_le_mul (by have := fs_wd t; omega) hB.u
    have h8 := hB.t
    have h9 := hB.r
    omega
  have KO : Hid (∀ W, Calls Tryz.prog 54 #[.int .u16 t] W fun e w' => e = .returned (.agg #[.int .i64 (fs t).nn, .int .i64 (fs t).nf, .int .i64 (fs t).nu, .int .i64 (fs t).wd, .int .i64 (fs t).nt, .int .i64 (fs t).tg, .int .i64 (fs t).tl, .int .i64 (fs t).nr]) ∧ Hid (Below W.heap.size W w')) := fun W => fieldsof_any t W
  have hc1 : x.p1.n ≤ 9223372036854775807 := Nat.le_trans h.h1.cap.1 h.h1.cap.2
  have HL : Hid (d.ns.length = x.p1.n) := h.h1.len
  have HNB : Hid (∀ n ∈ d.ns, labsOk n → nsz n ≤ 1000000000000000) := by
    intro n hn hl
    have h1 := nsz_labs n hl
    have h2 := hB.nl n hn
    omega
  have HQ : Hid (checkF t d = if mayT t then (if (cntB (fs t) d && wthB (fs t) d) then (if nsErr d.ns = 0 then (if 65535 < sizesF t d then 3 else 0) else nsErr d.ns) else 7) else 6) := by
    show _ = _
    rw [fit_eq]
    rfl
  obtain ⟨C, hC⟩ : ∃ C, checkF t d = C := ⟨_, rfl⟩
  rw [hC] at HQ ⊢
  have KH : Hid (∀ W, Calls Tryz.prog 53 #[.int .u16 t] W fun e w' => e = .returned (.bool (mayT t)) ∧ w' = W) := fun W => hasdata_any t W
  clear hC h hb0 hB
  generalize hmay : mayT t = mt at *
  generalize hcnt : cntB (fs t) d = ct at *
  generalize hwth : wthB (fs t) d = wt at *
  generalize (fs t) = f at *
  generalize hsz : sizesF t d = sz at *
  clear hmay hcnt hwth hsz
  obtain ⟨nn, nf, nu, wd, nt, tg, tl, nr⟩ := f
  obtain ⟨⟨a1, n1, k1⟩, ⟨a2, n2, k2⟩, ⟨a3, n3, k3⟩, ⟨a4, n4, k4⟩⟩ := x
  simp only at H KC KW KZ KO hc1 HL ⊢
  go_enter Tryz.func24, Tryz.ntmps24
  go_wp2_with fail
  generalize (w.alloc (.cells #[.slice a1 n1 k1, .slice a2 n2 k2, .slice a3 n3 k3, .slice a4 n4 k4] 29)) = W1 at *
  obtain ⟨b, hb⟩ : ∃ b, b = w.heap.size := ⟨_, rfl⟩
  rw [← hb] at H ⊢
  have Hb : Hid (b = w.heap.size) := hb
  clear hb
  refine (KH.out W1).mono ?_
  rintro e W1 ⟨rfl, rfl⟩
  clear KH
  cases mt with
  | false =>
    have HE : Hid (C = 6) := by show C = 6; have := HQ.out; simpa using this
    clear HQ KC KW KZ KO
    go_wp2_with fail
    go_ret
    exact ⟨by rw [HE.out]; rfl, by have := H.out.2.2; rw [Hb.out] at this; exact this⟩
  | true =>
  go_wp2_with fail
  refine (KO.out W1).mono ?_
  rintro e W2 ⟨rfl, H2⟩
  have H3 : Hid (PkSt w (W2.alloc (.cells #[.int .i64 nn, .int .i64 nf, .int .i64 nu, .int .i64 wd, .int .i64 nt, .int .i64 tg, .int .i64 tl, .int .i64 nr] 90)) b W2.heap.size ⟨nn, nf, nu, wd, nt, tg, tl, nr⟩ ⟨⟨a1, n1, k1⟩, ⟨a2, n2, k2⟩, ⟨a3, n3, k3⟩, ⟨a4, n4, k4⟩⟩ d) := PkSt.new ⟨nn, nf, nu, wd, nt, tg, tl, nr⟩ (H.out.1.below H2.out) (H.out.2.1.below H2.out) (by have := H.out.2.2; rw [Hb.out] at this; exact this.trans (H2.out.mono this.size))
  clear H H2 KO
  go_upto_region 4 with fail
  generalize (W2.alloc (.cells #[.int .i64 nn, .int .i64 nf, .int .i64 nu, .int .i64 wd, .int .i64 nt, .int .i64 tg, .int .i64 tl, .int .i64 nr] 90)) = W3 at *
  generalize W2.heap.size = g at *
  obtain ⟨s0, s1, s2, s3, s4, s5, s6, s7, _⟩ := H3.out.2.1
  have c0 := H3.out.1.1
  have c1 := H3.out.1.2.1
  have c2 := H3.out.1.2.2.1
  have c3 := H3.out.1.2.2.2.1
  simp only at s0 s1 s2 s3 s4 s5 s6 s7 c0 c1 c2 c3
  go_wp2_with fail
  refine (KC.out W3 H3.out.2.2.1).mono ?_
  rintro e W4 ⟨rfl, H4⟩
  have H5 : Hid (PkSt w W4 b g ⟨nn, nf, nu, wd, nt, tg, tl, nr⟩ ⟨⟨a1, n1, k1⟩, ⟨a2, n2, k2⟩, ⟨a3, n3, k3⟩, ⟨a4, n4, k4⟩⟩ d) := H3.out.go H4.out
  clear H3 H4 KC s0 s1 s2 s3 s4 s5 s6 s7 c0 c1 c2 c3
  cases ct with
  | false =>
    have HE : Hid (C = 7) := by show C = 7; have := HQ.out; simpa using this
    clear HQ KZ KW
    go_wp2_with fail
    go_ret
    exact ⟨by rw [HE.out]; rfl, H5.out.2.2.2⟩
  | true =>
  obtain ⟨s0, s1, s2, s3, s4, s5, s6, s7, _⟩ := H5.out.2.1
  have c0 := H5.out.1.1
  have c1 := H5.out.1.2.1
  have c2 := H5.out.1.2.2.1
  have c3 := H5.out.1.2.2.2.1
  simp only at s0 s1 s2 s3 s4 s5 s6 s7 c0 c1 c2 c3
  go_wp2_with fail
  refine (KW.out (by trivial) W4 H5.out.2.2.1).mono ?_
  rintro e W5 ⟨rfl, H4⟩
  have H6 : Hid (PkSt w W5 b g ⟨nn, nf, nu, wd, nt, tg, tl, nr⟩ ⟨⟨a1, n1, k1⟩, ⟨a2, n2, k2⟩, ⟨a3, n3, k3⟩, ⟨a4, n4, k4⟩⟩ d) := H5.out.go H4.out
  clear H5 H4 KW s0 s1 s2 s3 s4 s5 s6 s7 c0 c1 c2 c3
  cases wt with
  | false =>
    have HE : Hid (C = 7) := by show C = 7; have := HQ.out; simpa using this
    clear HQ KZ
    go_wp2_with fail
    go_ret
    exact ⟨by rw [HE.out]; rfl, H6.out.2.2.2⟩
  | true =>
  have HQ2 : Hid (C = if nsErr d.ns = 0 then (if 65535 < sz then 3 else 0) else nsErr d.ns) := by show C = _; have := HQ.out; simpa using this
  clear HQ
  have c0 := H6.out.1.1
  simp only at c0
  go_wp2_with fail
  go_loopw [27] (fun i wr => wr = W5 ∧ ∃ k : Nat, k ≤ n1 ∧ i = .int .i64 (k : Int) ∧ Hid (∀ n ∈ d.ns.take k, nck n = 0)) (fun i _ => n1 - (intOf i).toNat)
  case atStart => exact ⟨rfl, 0, Nat.zero_le _, rfl, by intro n hn; simp at hn⟩
  case round =>
    obtain ⟨hwr, k, hk, rfl, HA⟩ := hrel
    subst hwr
    by_cases hlt : k < n1
    · have hlt' : (k : Int) < (n1 : Int) := by omega
      have hki : k < d.ns.length := by rw [HL.out]; exact hlt
      obtain ⟨B1, o1, ha1, hl1, z1, hz1, hr1⟩ := H6.out.2.2.1.h1.at k hki
      simp only at ha1
      subst ha1
      have HD : Hid (nsErr d.ns = if nck d.ns[k] = 0 then nsErr (d.ns.drop (k + 1)) else nck d.ns[k]) := by
        show _ = _
        rw [nsErr_drop' d.ns k HA.out, List.drop_eq_getElem_cons hki]
        rfl
      have HA2 : Hid (nck d.ns[k] = 0 → ∀ n ∈ d.ns.take (k + 1), nck n = 0) := by
        intro h0 n hn
        rw [List.take_succ_eq_append_getElem hki] at hn
        simp only [List.mem_append, List.mem_singleton] at hn
        rcases hn with hn | rfl
        · exact HA.out n hn
        · exact h0
      have KC : Hid (∀ W, W = wr → Calls Tryz.prog 25 #[.slice z1.a z1.n z1.c] W fun e w' => e = .returned (.int .i64 (nck d.ns[k])) ∧ w' = W) := by
        intro W e
        subst e
        exact pcheck_wide z1.a z1.n z1.c d.ns[k] W hr1.rd hr1.len (HNB.out _ (List.getElem_mem _)) (Nat.le_trans hr1.cap.1 hr1.cap.2) hr1.z63
      clear hr1 HA
      generalize nck d.ns[k] = q at *
      generalize z1.a = za at *
      generalize z1.n = zn at *
      generalize z1.c = zc at *
      by_cases hq : q = 0
      · have hq' : (q != 0) = false := by simp [hq]
        have HA3 := HA2.out hq
        have HA4 : Hid (∀ n ∈ d.ns.take (k + 1), nck n = 0) := HA3
        clear HA3 HA2 HD hq
        go_wp2_with fail
        refine (KC.out _ rfl).mono ?_
        rintro e Wx ⟨rfl, rfl⟩
        go_wp2_with fail
        refine ⟨⟨by first | rfl | trivial, k + 1, by omega, by go_num, HA4⟩, ?_⟩
        simp [intOf]; omega
      · have hq' : (q != 0) = true := by simp [hq]
        have HE : Hid (C = q) := by
          have h1 := HQ2.out
          have h2 := HD.out
          rw [if_neg hq] at h2
          rw [h2, if_neg hq] at h1
          exact h1
        clear HA2 HD hq HQ2
        go_wp2_with fail
        refine (KC.out _ rfl).mono ?_
        rintro e Wx ⟨rfl, rfl⟩
        go_wp2_with fail
        go_ret
        exact ⟨by rw [HE.out]; rfl, H6.out.2.2.2⟩
    · have hge : ¬ (k : Int) < (n1 : Int) := by omega
      have HN : Hid (nsErr d.ns = 0) := by
        have h1 := HA.out
        rw [List.take_of_length_le (by rw [HL.out]; show n1 ≤ k; omega)] at h1
        have := nsErr_drop' d.ns d.ns.length (by rw [List.take_of_length_le (Nat.le_refl _)]; exact h1)
        rw [List.drop_length] at this
        exact this
      have HE : Hid (C = if 65535 < sz then 3 else 0) := by
        have h1 := HQ2.out
        rw [if_pos HN.out] at h1
        exact h1
      have KZ2 : Hid (∀ W, DRd W ⟨⟨a1, n1, k1⟩, ⟨a2, n2, k2⟩, ⟨a3, n3, k3⟩, ⟨a4, n4, k4⟩⟩ d → Calls Tryz.prog 57 #[.agg #[.int .i64 nn, .int .i64 nf, .int .i64 nu, .int .i64 wd, .int .i64 nt, .int .i64 tg, .int .i64 tl, .int .i64 nr], .agg #[.slice a1 n1 k1, .slice a2 n2 k2, .slice a3 n3 k3, .slice a4 n4 k4]] W fun e w' => e = .returned (.int .i64 (sz : Nat)) ∧ Hid (Below W.heap.size W w')) := KZ.out (by trivial) (by trivial) HN.out
      clear HA HN KZ HQ2
      obtain ⟨s0, s1, s2, s3, s4, s5, s6, s7, _⟩ := H6.out.2.1
      have c1 := H6.out.1.2.1
      have c2 := H6.out.1.2.2.1
      have c3 := H6.out.1.2.2.2.1
      simp only at s0 s1 s2 s3 s4 s5 s6 s7 c1 c2 c3
      go_wp2_with fail
      refine (KZ2.out _ H6.out.2.2.1).mono ?_
      rintro e W7 ⟨rfl, H7⟩
      have HB : Hid (Below w.heap.size w W7) := H6.out.2.2.2.trans (H7.out.mono H6.out.2.2.2.size)
      clear H7 H6 s0 s1 s2 s3 s4 s5 s6 s7 c0 c1 c2 c3 KZ2
      by_cases hs : 65535 < sz
      · have hs' : (65535 : Int) < (sz : Int) := by omega
        have HE2 : Hid (C = 3) := by have := HE.out; rw [if_pos hs] at this; exact this
        clear HE
        go_wp2_with fail
        go_ret
        exact ⟨by rw [HE2.out]; rfl, HB.out⟩
      · have hs' : ¬ (65535 : Int) < (sz : Int) := by omega
        have HE2 : Hid (C = 0) := by have := HE.out; rw [if_neg hs] at this; exact this
        clear HE
        go_wp2_with fail
        go_ret
        exact ⟨by rw [HE2.out]; rfl, HB.out⟩
end Go.Proofs.YtfkfjodfjgjbkaaGreatDoor
