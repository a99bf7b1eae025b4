/- Texts laid together, in parts: Base Own Str Num Nm2 Row Tl Tm Byt Txt Fld Par Nr Ns Nt Nu Nv Bk Np Sqa Sqb Sqh Sqb2 Dsp Dbk Kb Dm Lg. -/
import Derived.WalkKit
import Derived.ProofKit
import Derived.Below
import Derived.Laws.BitsAllLaws
import Derived.Test.YtkjnbgekaifdfaaGreatRows
import Derived.WalkSpells
import Derived.OwnWalk
import Derived.Laws.CopyOwn
import Derived.Laws.IdiomStrings
import Derived.Laws.AppendOwn
import Derived.Deep.AppendSrc
import Derived.Deep.QuietTactic
import Derived.BigQuiet
import Derived.Deep.RegionHeld3
import Derived.Lib.Builder
import Derived.Lib.UnsafeStr
import Derived.Lib.Bytealg
import Derived.OpenShut
import Derived.ShutString
import Derived.ChangeOld
import Derived.JoinedCond
import Derived.Deep.Strs
import Derived.Deep.Slices
import Derived.Lib.SmallJoins
import Derived.Deep.CutBlock
namespace Go.Proofs.YtkjnbgekaifdfaaGreat
open Go.ChangeShapes Go.WideShapes Go.ChangeAt Go.RowKit
/-- From the address on the numbers lie there, each a byte. -/
def Rd (w : World) (a : Option Addr) (zs : List Int) : Prop :=
  (zs = [] ∨ ∃ b o, a = some ⟨b, o, none⟩ ∧ b < w.heap.size ∧ ∀ i, i < zs.length → w.cell? ⟨b, o + i, none⟩ = some (.int .u8 (zs.getD i 0))) ∧ ∀ z ∈ zs, 0 ≤ z ∧ z ≤ 255
theorem Rd.bd {w : World} {a : Option Addr} {zs : List Int} (h : Rd w a zs) (i : Nat) : 0 ≤ zs.getD i 0 ∧ zs.getD i 0 ≤ 255 := by
  by_cases hi : i < zs.length
  · have := h.2 (zs.getD i 0) (by rw [List.getD_eq_getElem?_getD, List.getElem?_eq_getElem hi]; simp)
    exact this
  · rw [List.getD_eq_getElem?_getD, List.getElem?_eq_none (by omega)]; simp
theorem Rd.of_blocks {w w' : World} {a : Option Addr} {zs : List Int} (h : Rd w a zs) (hs : w.heap.size ≤ w'.heap.size) (hb : ∀ b o, a = some ⟨b, o, none⟩ → w'.heap[b]? = w.heap[b]?) : Rd w' a zs := by
  refine ⟨?_, h.2⟩
  rcases h.1 with h1 | ⟨b, o, rfl, h1, h2⟩
  · exact .inl h1
  · refine .inr ⟨b, o, rfl, by omega, fun i hi => ?_⟩
    rw [← h2 i hi]
    exact World.cell?_of_block (w := w) (hb b o rfl)
theorem Rd.below {w w' : World} {a : Option Addr} {zs : List Int} (h : Rd w a zs) (hb : Below w.heap.size w w') : Rd w' a zs := by
  refine ⟨?_, h.2⟩
  rcases h.1 with h1 | ⟨b, o, rfl, h1, h2⟩
  · exact .inl h1
  · refine .inr ⟨b, o, rfl, Nat.lt_of_lt_of_le h1 hb.size, fun i hi => ?_⟩
    rw [← h2 i hi]
    exact hb.cell (p := ⟨b, o + i, none⟩) h1
theorem Rd.cut {w : World} {a : Option Addr} {zs : List Int} (h : Rd w a zs) (at_ n : Nat) (hn : at_ + n ≤ zs.length) {a' : Option Addr}
    (ha : 0 < n → ∀ b o, a = some ⟨b, o, none⟩ → a' = some ⟨b, o + at_, none⟩) : Rd w a' ((zs.drop at_).take n) := by
  refine ⟨?_, fun z hz => h.2 z (List.mem_of_mem_drop (List.mem_of_mem_take hz))⟩
  by_cases h0 : n = 0
  · left; subst h0; simp
  · rcases h.1 with h1 | ⟨b, o, rfl, h1, h2⟩
    · subst h1; simp at hn; omega
    · refine .inr ⟨b, o + at_, ha (by omega) b o rfl, h1, fun i hi => ?_⟩
      have hi' : i < n := by simp at hi; omega
      have := h2 (at_ + i) (by omega)
      rw [Nat.add_assoc, this]
      congr 2
      simp [List.getD_eq_getElem?_getD, hi', List.getElem?_drop]
/-- The number that bytes are, the first the greatest. -/
def val (zs : List Int) : Int := zs.foldl (fun n c => n * 256 + c) 0
/-- A block that holds just these bytes, and may be written. -/
def Blk (w : World) (g : Nat) (zs : List Int) : Prop :=
  w.heap[g]? = some (.cells (zs.map (Value.int .u8)).toArray 5 (0, 0)) ∧ ∀ z ∈ zs, 0 ≤ z ∧ z ≤ 255
theorem Blk.lt {w : World} {g : Nat} {zs : List Int} (h : Blk w g zs) : g < w.heap.size := by
  have := h.1
  by_cases hg : g < w.heap.size
  · exact hg
  · rw [Array.getElem?_eq_none (by omega)] at this; cases this
theorem Blk.same {w w' : World} {g : Nat} {zs : List Int} (h : Blk w g zs) (hb : w'.heap[g]? = w.heap[g]?) : Blk w' g zs := ⟨hb.trans h.1, h.2⟩
theorem Blk.below {w w' : World} {g : Nat} {zs : List Int} (h : Blk w g zs) (hb : Below w.heap.size w w') : Blk w' g zs := h.same (hb.block g h.lt)
theorem Blk.cell {w : World} {g : Nat} {zs : List Int} (h : Blk w g zs) (i : Nat) (hi : i < zs.length) : w.cell? ⟨g, i, none⟩ = some (.int .u8 (zs.getD i 0)) := by
  simp [World.cell?, h.1, hi]
theorem Blk.rd {w : World} {g : Nat} {zs : List Int} (h : Blk w g zs) (n : Nat) : Rd w (some ⟨g, 0, none⟩) (zs.take n) := by
  refine ⟨.inr ⟨g, 0, rfl, h.lt, fun i hi => ?_⟩, fun z hz => h.2 z (List.mem_of_mem_take hz)⟩
  rw [Nat.zero_add, h.cell i (by simp at hi; omega)]
  have : i < n := by simp at hi; omega
  simp [List.getD_eq_getElem?_getD, this]
end Go.Proofs.YtkjnbgekaifdfaaGreat
namespace Go.Proofs.YtkjnbgekaifdfaaGreat
open Go.ChangeShapes Go.WideShapes Go.ChangeAt Go.RowKit
set_option linter.unusedVariables false
set_option linter.unusedSimpArgs false
theorem Tryz.info5 : (Tryz.prog.info? 5).map (fun i => (i.zero, i.size, i.bytes)) = some (some (.int .u8 0), 1, 1) := by kernel_rfl
/-- A list of bytes in a block of its own, from the block B on: n of them, the block's whole cells are zs. -/
def Own (B : Nat) (w : World) (v : Value) (n : Nat) (zs : List Int) : Prop :=
  (v = .slice none 0 0 ∧ n = 0 ∧ zs = []) ∨
  ∃ g, v = .slice (some ⟨g, 0, none⟩) n zs.length ∧ B ≤ g ∧ Blk w g zs ∧ n ≤ zs.length ∧ zs.length ≤ maxLen
theorem zeros_eq (k : Nat) : Builtin.zeroCells (Value.int .u8 0).cells k = ((List.replicate k (0 : Int)).map (Value.int .u8)).toArray := by
  apply Array.ext
  · simp [Builtin.zeroCells, Value.cells]
  · intro i h1 h2
    simp [Builtin.zeroCells, Value.cells]
    have : i % 1 = 0 := by omega
    simp [this]
theorem made_eq (k : Nat) : madeCells (Value.int .u8 0).cells (k * 1) = ((List.replicate k (0 : Int)).map (Value.int .u8)).toArray := by
  apply Array.ext
  · simp [madeCells, Value.cells]
  · intro i h1 h2
    simp [madeCells, Value.cells]
    have : i % 1 = 0 := by omega
    simp [this]
theorem rd_cells {w : World} {x : Addr} {zs : List Int} (h : Rd w (some x) zs) : ∀ j u, (zs.map (Value.int .u8))[j]? = some u → w.cell? (x.add j) = some u := by
  intro j u hu
  have hj : j < zs.length := by simpa using (List.getElem?_eq_some_iff.1 hu).1
  rcases h.1 with h1 | ⟨b, o, e, _, h2⟩
  · subst h1; simp at hj
  · cases e
    rw [Addr.add_lit, h2 j hj, ← hu]
    simp [hj]
theorem run_append_blk (w : World) (B : Nat) (ty : TypeId) (v : Value) (n : Nat) (zs : List Int) (hown : Own B w v n zs)
    (ao : Option Addr) (m c : Nat) (news : List Int) (hr : Rd w ao news) (hl : news.length = m) (hc : ao = none → c = 0) (hb : n + m ≤ 140737488355328) (hB : B ≤ w.heap.size) :
    ∃ v' w' zs', (Builtin.append_ #[29, 29] ty #[v, .slice ao m c]).run Tryz.prog w = .ok v' w' ∧ Own B w' v' (n + m) zs' ∧ zs'.take (n + m) = zs.take n ++ news ∧ w.grownBy w' v.ownBlock := by
  obtain ⟨i, hi, hz0, hz1, hz2⟩ := info_parts Tryz.info5
  cases ao with
  | none =>
    have hnews : news = [] := by
      rcases hr.1 with h1 | ⟨b, o, h, _⟩
      · exact h1
      · cases h
    subst hnews; subst hl
    rw [hc rfl]
    refine ⟨v, w, zs, ?_, hown, by simp, World.grownBy.refl _ _⟩
    rcases hown with ⟨rfl, rfl, rfl⟩ | ⟨g, rfl, hBg, hblk, hn, hm⟩
    · simp [Builtin.append_, run_underlying Tryz.underlying29, sizeOf, typeInfo, hi, Builtin.lenOf, Builtin.firstCells]
    · simp [Builtin.append_, run_underlying Tryz.underlying29, sizeOf, typeInfo, hi, Builtin.lenOf, Builtin.firstCells, hn, storeCells]
  | some a =>
    have hcs := rd_cells hr
    have hml : n + m ≤ maxLen := by simp only [maxLen]; omega
    have hlm : (news.map (Value.int .u8)).length = m * i.size := by rw [hz1]; simp [hl]
    have grown : ∀ (old : Nat), old < n + m → ∀ (row : Option Nat), (n = 0 ∨ n ≤ zs.length) →
        ∃ zs' : List Int, (.cells (((zs.take n).map (Value.int .u8)).toArray ++ (news.map (Value.int .u8)).toArray ++ Builtin.zeroCells (Value.int .u8 0).cells (grownCap w (n + m) old 5 - (n + m))) 5 : Obj) = .cells (zs'.map (Value.int .u8)).toArray 5 (0, 0) ∧
        zs'.length = grownCap w (n + m) old 5 ∧ zs'.take (n + m) = zs.take n ++ news ∧ (∀ z ∈ zs', 0 ≤ z ∧ z ≤ 255) := by
      intro old ho row hn
      have hge := grownCap_ge w (n + m) old 5
      have hzb : ∀ z ∈ zs, 0 ≤ z ∧ z ≤ 255 := by
        rcases hown with ⟨_, _, rfl⟩ | ⟨g, _, _, hblk, _⟩
        · intro z hz; cases hz
        · exact hblk.2
      have htl : (zs.take n).length = n := by
        rcases hn with rfl | hn
        · simp
        · simp; omega
      refine ⟨zs.take n ++ news ++ List.replicate (grownCap w (n + m) old 5 - (n + m)) 0, ?_, ?_, ?_, ?_⟩
      · rw [zeros_eq]; simp
      · simp only [List.length_append, htl, hl, List.length_replicate]; omega
      · rw [List.take_append_of_le_length (by simp only [List.length_append, htl, hl]; omega)]
        exact List.take_of_length_le (by simp only [List.length_append, htl, hl]; omega)
      · intro z hz
        simp only [List.mem_append, List.mem_replicate] at hz
        rcases hz with (hz | hz) | ⟨_, rfl⟩
        · exact hzb z (List.mem_of_mem_take hz)
        · exact hr.2 z hz
        · omega
    have fresh : ∀ (old : Nat), old < n + m → ∀ zs' : List Int, zs'.length = grownCap w (n + m) old 5 → (∀ z ∈ zs', 0 ≤ z ∧ z ≤ 255) →
        Own B (w.drew.alloc (.cells (zs'.map (Value.int .u8)).toArray 5 (0, 0))) (.slice (some ⟨w.heap.size, 0, none⟩) (n + m) (grownCap w (n + m) old 5)) (n + m) zs' := by
      intro old ho zs' hzl hzb
      refine .inr ⟨w.heap.size, by rw [hzl], hB, ⟨heap_alloc_new w.drew _, hzb⟩, ?_, ?_⟩
      · rw [hzl]; exact grownCap_ge w (n + m) old 5
      · rw [hzl]; exact grownCap_le_maxLen w (n + m) old 5 hml
    rcases hown with ⟨rfl, rfl, rfl⟩ | ⟨g, rfl, hBg, hblk, hn, hm⟩
    · by_cases hm0 : m = 0
      · subst hm0
        have hnews : news = [] := List.eq_nil_of_length_eq_zero hl
        subst hnews
        refine ⟨.slice none 0 0, w, [], ?_, .inl ⟨rfl, rfl, rfl⟩, by simp, World.grownBy.refl _ _⟩
        simp [Builtin.append_, run_underlying Tryz.underlying29, sizeOf, typeInfo, hi, Builtin.lenOf, Builtin.firstCells, loadCells, loadCellsFrom]
      · have hr' := run_append_nil (P := Tryz.prog) w 29 ty 5 i _ Tryz.underlying29 hi hz0 a m c (news.map (Value.int .u8)) hlm hcs (by omega) (by omega) (by rw [hz2]; omega)
        obtain ⟨zs', e1, e2, e3, e4⟩ := grown 0 (by omega) none (.inl rfl)
        have hf := fresh 0 (by omega) zs' e2 e4
        simp only [Nat.zero_add, List.take_nil, List.map_nil, List.nil_append, Array.empty_append, List.take_zero] at e1 e2 e3 hf ⊢
        rw [e1] at hr'
        exact ⟨_, _, zs', hr', hf, e3, ⟨rfl, rfl, rfl, by simp, fun k hk _ => Below.heap_alloc w.drew _ k hk⟩⟩
    · by_cases hroom : n + m ≤ zs.length
      · have hr' := run_append_room (P := Tryz.prog) w 29 ty 5 i Tryz.underlying29 hi g n zs.length _ hblk.1 a m c (news.map (Value.int .u8)) hlm hcs (ints_oneCell _ _) hroom (by rw [hz1]; simp [hl]; omega)
        have e : (((zs.map (Value.int .u8)).toArray.toList.take (n * i.size)) ++ news.map (Value.int .u8) ++ (zs.map (Value.int .u8)).toArray.toList.drop (n * i.size + (news.map (Value.int .u8)).length)).toArray = ((zs.take n ++ news ++ zs.drop (n + m)).map (Value.int .u8)).toArray := by
          rw [hz1]; simp [hl]
        rw [e] at hr'
        have hlen : (zs.take n ++ news ++ zs.drop (n + m)).length = zs.length := by simp [hl]; omega
        refine ⟨_, _, zs.take n ++ news ++ zs.drop (n + m), hr', .inr ⟨g, by rw [hlen], hBg, ⟨setRow_heap w g _ _ 5 _ hblk.1, ?_⟩, by rw [hlen]; exact hroom, by rw [hlen]; exact hm⟩, ?_,
          ⟨rfl, rfl, rfl, by simp, fun k _ hk => setRow_other w g k _ (fun e => hk (by simp [Value.ownBlock, e]))⟩⟩
        · intro z hz
          simp only [List.mem_append] at hz
          rcases hz with (hz | hz) | hz
          · exact hblk.2 z (List.mem_of_mem_take hz)
          · exact hr.2 z hz
          · exact hblk.2 z (List.mem_of_mem_drop hz)
        · rw [List.take_append_of_le_length (by simp [hl]; omega)]
          exact List.take_of_length_le (by simp [hl]; omega)
      · have holds : ∀ j u, ((zs.take n).map (Value.int .u8))[j]? = some u → w.cell? ((⟨g, 0, none⟩ : Addr).add j) = some u := rd_cells (hblk.rd n)
        have hr' := run_append_grow (P := Tryz.prog) w 29 ty 5 i _ Tryz.underlying29 hi hz0 ⟨g, 0, none⟩ n zs.length ((zs.take n).map (Value.int .u8)) (by rw [hz1]; simp; omega) holds a m c (news.map (Value.int .u8)) hlm hcs (by omega) (by simp only [maxLen] at hml; omega) (growslice_fits (by omega) (by rw [hz2]; omega))
        obtain ⟨zs', e1, e2, e3, e4⟩ := grown zs.length (by omega) none (.inr hn)
        have hf := fresh zs.length (by omega) zs' e2 e4
        rw [e1] at hr'
        exact ⟨_, _, zs', hr', hf, e3, ⟨rfl, rfl, rfl, by simp, fun k hk _ => Below.heap_alloc w.drew _ k hk⟩⟩
theorem wpList_append_blk (w : World) {ops : Array Oper} {rest : List Oper} {o : Oper} {a : Act} {Q : Exit → Act → World → Prop} (hgd : o.guard = none) (s x : Operand)
    (ho : o.op = .call { callee := .builtin .append, args := #[s, x], argTypes := #[29, 29] }) (B : Nat) (v : Value) (n : Nat) (zs : List Int) (hs : a.eval s = v) (hown : Own B w v n zs)
    (ao : Option Addr) (m c : Nat) (news : List Int) (hx : a.eval x = .slice ao m c) (hr : Rd w ao news) (hl : news.length = m) (hc : ao = none → c = 0) (hb : n + m ≤ 140737488355328) (hB : B ≤ w.heap.size)
    (h : ∀ v' w' zs', Hid (Own B w' v' (n + m) zs') → Hid (zs'.take (n + m) = zs.take n ++ news) → w.grownBy w' v.ownBlock → wpList Tryz.prog ops Q rest (a.put o.dst v') w') : wpList Tryz.prog ops Q (o :: rest) a w := by
  refine wpList_plain hgd fun K hK => ?_
  obtain ⟨v', w', zs', hrun, h2, h3, h4⟩ := run_append_blk w B o.type v n zs hown ao m c news hr hl hc hb hB
  unfold Oper.wp execOp
  simp only [ho, resolve, invoke, builtin, Sem.run_bind, Sem.run_pure, Result.andThen_ok, List.map_toArray, List.map_cons, List.map_nil, hs, hx, hrun]
  exact hK _ _ (h v' w' zs' h2 h3 h4)
/-- 'make([]byte, n)' and 'make([]byte, l, n)'. -/
theorem wpList_make_blk (w : World) {ops : Array Oper} {rest : List Oper} {o : Oper} {a : Act} {Q : Exit → Act → World → Prop} (hgd : o.guard = none) (s x : Operand)
    (ho : o.op = .makeSlice 29 s x) (l n : Nat) (L C : Int) (hs : a.eval s = .int .i64 L) (hx : a.eval x = .int .i64 C) (hL : L = (l : Int)) (hC : C = (n : Int)) (hln : l ≤ n) (hn : n ≤ 281474976710656)
    (h : wpList Tryz.prog ops Q rest (a.put o.dst (.slice (some ⟨w.heap.size, 0, none⟩) l n)) (w.alloc (.cells ((List.replicate n (0 : Int)).map (Value.int .u8)).toArray 5))) : wpList Tryz.prog ops Q (o :: rest) a w := by
  refine wpList_plain hgd fun K hK => ?_
  obtain ⟨i, hi, hz0, hz1, hz2⟩ := info_parts Tryz.info5
  have hrun := run_make (P := Tryz.prog) w 29 5 i _ Tryz.underlying29 hi hz0 .i64 .i64 (l : Int) (n : Int) (by omega) (by omega) (by rw [hz2]; omega) (by omega)
  rw [hz1] at hrun
  simp only [Int.toNat_natCast, made_eq] at hrun
  subst hL
  subst hC
  unfold Oper.wp
  simp only [execOp, ho, hs, hx, Sem.run_bind, hrun, Result.andThen]
  exact hK _ _ h
end Go.Proofs.YtkjnbgekaifdfaaGreat
namespace Go.Proofs.YtkjnbgekaifdfaaGreat
open Go.ChangeShapes Go.WideShapes Go.ChangeAt Go.RowKit
set_option linter.unusedVariables false
set_option linter.unusedSimpArgs false
/-- The text of bytes. -/
def txt (zs : List Int) : List UInt8 := zs.map fun z => UInt8.ofNat z.toNat
theorem txt_len (zs : List Int) : (txt zs).length = zs.length := by simp [txt]
theorem conv_rd (a : Option Addr) (n c : Nat) (zs : List Int) (w : World) (hr : Rd w a zs) (hl : zs.length = n) :
    (convert 29 9 (.slice a n c)).run Tryz.prog w = .ok (.string ⟨(txt zs).toArray⟩) w := by
  cases a with
  | none =>
    rcases hr.1 with h1 | ⟨b, o, h, _⟩
    · subst h1; subst hl
      rw [run_convert_bytes_string w 29 9 5 none _ c Tryz.underlying29 Tryz.underlying5 Tryz.underlying9]
      simp [Conv.bytesToString, txt]
      rfl
    · cases h
  | some x =>
    have := run_convert_bytes_back (P := Tryz.prog) w 29 9 5 x c (txt zs) Tryz.underlying29 Tryz.underlying5 Tryz.underlying9 (fun j hj => by
      rcases hr.1 with h1 | ⟨b, o, h, _, h2⟩
      · subst h1; simp [txt] at hj
      · cases h
        have hj' : j < zs.length := by simpa [txt] using hj
        have e := h2 j hj'
        have hz := hr.2 (zs[j]) (List.getElem_mem hj')
        rw [Addr.add_lit, e]
        simp [txt, hj']
        omega)
    rw [txt_len, hl] at this
    exact this
/-- A list of bytes at an address of its own. -/
def OwnA (B : Nat) (w : World) (ao : Option Addr) (n : Nat) (zs : List Int) : Prop :=
  (ao = none ∧ n = 0 ∧ zs = []) ∨ ∃ g, ao = some ⟨g, 0, none⟩ ∧ B ≤ g ∧ Blk w g zs ∧ n ≤ zs.length ∧ zs.length ≤ maxLen
/-- The block of an address. -/
def blk (ao : Option Addr) : Option Nat := ao.map (·.block)
theorem Own.addr {B : Nat} {w : World} {v : Value} {n : Nat} {zs : List Int} (h : Own B w v n zs) : ∃ ao, v = .slice ao n zs.length ∧ OwnA B w ao n zs := by
  rcases h with ⟨rfl, rfl, rfl⟩ | ⟨g, rfl, hB, hb, hn, hm⟩
  · exact ⟨none, rfl, .inl ⟨rfl, rfl, rfl⟩⟩
  · exact ⟨some ⟨g, 0, none⟩, rfl, .inr ⟨g, rfl, hB, hb, hn, hm⟩⟩
theorem OwnA.rdTake {B : Nat} {w : World} {ao : Option Addr} {n : Nat} {zs : List Int} (h : OwnA B w ao n zs) (m : Nat) : Rd w ao (zs.take m) := by
  rcases h with ⟨rfl, _, rfl⟩ | ⟨g, rfl, h2, h3, _⟩
  · exact ⟨.inl (by simp), by simp⟩
  · exact h3.rd m
theorem OwnA.nil {B : Nat} {w : World} {ao : Option Addr} {n : Nat} {zs : List Int} (h : OwnA B w ao n zs) : ao = none → zs.length = 0 := by
  rintro rfl
  rcases h with ⟨_, _, rfl⟩ | ⟨g, h, _⟩
  · rfl
  · cases h
theorem OwnA.le {B : Nat} {w : World} {ao : Option Addr} {n : Nat} {zs : List Int} (h : OwnA B w ao n zs) : n ≤ zs.length ∧ zs.length ≤ maxLen := by
  rcases h with ⟨_, rfl, rfl⟩ | ⟨g, _, _, _, h4, h5⟩
  · exact ⟨Nat.le_refl _, Nat.zero_le _⟩
  · exact ⟨h4, h5⟩
/-- The bytes of a text, as numbers. -/
def nums (s : ByteArray) : List Int := s.data.toList.map fun b => (b.toNat : Int)
theorem nums_len (s : ByteArray) : (nums s).length = s.size := by simp [nums]
theorem nums_at (s : ByteArray) (i : Nat) (h : i < s.size) : (nums s).getD i 0 = (s[i].toNat : Int) := by
  have h' : i < s.data.toList.length := by simpa using h
  simp [nums, List.getD_eq_getElem?_getD]
  rw [show s.data[i]? = some s[i] from Array.getElem?_eq_getElem h]
  rfl
theorem nums_bd (s : ByteArray) (i : Nat) : 0 ≤ (nums s).getD i 0 ∧ (nums s).getD i 0 ≤ 255 := by
  by_cases h : i < s.size
  · rw [nums_at s i h]; have := s[i].toNat_lt; omega
  · rw [List.getD_eq_getElem?_getD, List.getElem?_eq_none (by rw [nums_len]; omega)]; simp
theorem Own.below {B : Nat} {w w' : World} {v : Value} {n : Nat} {zs : List Int} (h : Own B w v n zs) (hb : Below w.heap.size w w') : Own B w' v n zs := by
  rcases h with h | ⟨g, h1, h2, h3, h4⟩
  · exact .inl h
  · exact .inr ⟨g, h1, h2, h3.below hb, h4⟩
theorem Own.lt {B : Nat} {w : World} {v : Value} {n : Nat} {zs : List Int} (h : Own B w v n zs) : ∀ g, v.ownBlock = some g → B ≤ g := by
  intro g hg
  rcases h with ⟨rfl, _⟩ | ⟨g', rfl, h2, _⟩
  · cases hg
  · have : g' = g := Option.some.inj hg
    omega
theorem new_rd (w : World) (z : Int) (hz : 0 ≤ z ∧ z ≤ 255) : Rd (w.alloc (.cells #[.int .u8 z] 5)) (some ⟨w.heap.size, 0, none⟩) [z] := by
  refine ⟨.inr ⟨w.heap.size, 0, rfl, by simp, fun i hi => ?_⟩, by simpa using hz⟩
  have : i = 0 := by simp at hi; omega
  subst this
  simp [go_sem]
theorem step_append_blk {ops : Array Oper} {o : Oper} {a : Act} {w : World} {K : Act → World → Prop} {Q : Exit → Act → World → Prop} {E : Prop} (hgd : o.guard = none) (s x : Operand)
    (ho : o.op = .call { callee := .builtin .append, args := #[s, x], argTypes := #[29, 29] }) (B : Nat) (v : Value) (n : Nat) (zs : List Int) (hs : a.eval s = v) (hown : Own B w v n zs)
    (ao : Option Addr) (m c : Nat) (news : List Int) (hx : a.eval x = .slice ao m c) (hr : Rd w ao news) (N : Nat) (hl : news.length = m) (hN : n + m = N) (hc : ao = none → c = 0) (hb : N ≤ 140737488355328) (hB : B ≤ w.heap.size)
    (h : ∀ v' w' zs', Hid (Own B w' v' N zs') → Hid (zs'.take N = zs.take n ++ news) → Hid (w.grownBy w' v.ownBlock) → K (a.put o.dst v') w') :
    if Region.wanted o (yielded ops a.tmps) = true then Oper.wp Tryz.prog o a w K Q else E := by
  have hw : Region.wanted o (yielded ops a.tmps) = true := by simp [Region.wanted, hgd]
  rw [if_pos hw]
  subst hN
  obtain ⟨v', w', zs', hrun, h2, h3, h4⟩ := run_append_blk w B o.type v n zs hown ao m c news hr hl hc hb hB
  unfold Oper.wp execOp
  simp only [ho, resolve, invoke, builtin, Sem.run_bind, Sem.run_pure, Result.andThen_ok, List.map_toArray, List.map_cons, List.map_nil, hs, hx, hrun]
  exact h v' w' zs' h2 h3 h4
theorem heap_set {w : World} {g : Nat} {cur : Array Value} {t : TypeId} {fr : Nat × Nat} (h : w.heap[g]? = some (.cells cur t fr)) (i : Nat) (v : Value) :
    (w.setCell ⟨g, i, none⟩ v).heap[g]? = some (.cells (cur.setIfInBounds i v) t fr) := by
  have hg : g < w.heap.size := (Array.getElem?_eq_some_iff.1 h).1
  have e : w.heap[g] = .cells cur t fr := by
    rw [Array.getElem?_eq_getElem hg] at h; exact Option.some.inj h
  simp [World.setCell, hg, Array.getElem_modify, e]
end Go.Proofs.YtkjnbgekaifdfaaGreat
namespace Go.Proofs.YtkjnbgekaifdfaaGreat
open Go.ChangeShapes Go.WideShapes Go.ChangeAt Go.RowKit
set_option linter.unusedVariables false
set_option linter.unusedSimpArgs false
theorem put16_no (n : Int) (w : World) (h : n < 0 ∨ (0 ≤ n ∧ 65535 < n)) :
    Calls Tryz.prog 70 #[.int .i64 n] w fun e w' => e = .returned (.tuple #[.slice none 0 0, .int .i64 2]) ∧ w' = w := by
  rcases h with h | ⟨h0, h⟩
  · go_enter Tryz.func70, Tryz.ntmps70
    go_wp2
    go_ret2
    exact ⟨rfl, rfl⟩
  · go_enter Tryz.func70, Tryz.ntmps70
    go_wp2
    go_ret2
    exact ⟨rfl, rfl⟩
theorem put16_yes (n : Int) (w : World) (h0 : 0 ≤ n) (h1 : n ≤ 65535) :
    Calls Tryz.prog 70 #[.int .i64 n] w fun e w' => e = .returned (.tuple #[.slice (some ⟨w.heap.size, 0, none⟩) 2 2, .int .i64 0]) ∧ w' = w.alloc (.cells #[.int .u8 (n / 256), .int .u8 (n % 256)] 5) := by
  go_enter Tryz.func70, Tryz.ntmps70
  go_wp2
  go_ret2
  exact ⟨rfl, rfl⟩
end Go.Proofs.YtkjnbgekaifdfaaGreat
namespace Go.Proofs.YtkjnbgekaifdfaaGreat
open Go.ChangeShapes Go.WideShapes Go.ChangeAt Go.RowKit
set_option linter.unusedVariables false
set_option linter.unusedSimpArgs false
theorem put32_yes (n : Int) (w : World) (h0 : 0 ≤ n) (h1 : n < 4294967296) :
    Calls Tryz.prog 82 #[.int .u32 n] w fun e w' => e = .returned (.slice (some ⟨w.heap.size, 0, none⟩) 4 4) ∧ w' = w.alloc (.cells #[.int .u8 (n / 16777216), .int .u8 (n / 65536 % 256), .int .u8 (n / 256 % 256), .int .u8 (n % 256)] 5) := by
  go_enter Tryz.func82, Tryz.ntmps82
  go_wp2
  go_ret
  exact ⟨rfl, rfl⟩
end Go.Proofs.YtkjnbgekaifdfaaGreat
namespace Go.Proofs.YtkjnbgekaifdfaaGreat
open Go.ChangeShapes Go.WideShapes Go.ChangeAt Go.RowKit
set_option linter.unusedVariables false
set_option linter.unusedSimpArgs false
/-- From the address on the values lie there. -/
def RdV (w : World) (a : Option Addr) (xs : List Value) : Prop :=
  xs = [] ∨ ∃ b o, a = some ⟨b, o, none⟩ ∧ b < w.heap.size ∧ ∀ i (h : i < xs.length), w.cell? ⟨b, o + i, none⟩ = some xs[i]
theorem RdV.below {w w' : World} {a : Option Addr} {xs : List Value} (h : RdV w a xs) (hb : Below w.heap.size w w') : RdV w' a xs := by
  rcases h with h1 | ⟨b, o, rfl, h1, h2⟩
  · exact .inl h1
  · exact .inr ⟨b, o, rfl, Nat.lt_of_lt_of_le h1 hb.size, fun i hi => (hb.cell (p := ⟨b, o + i, none⟩) h1).trans (h2 i hi)⟩
theorem RdV.cells {w : World} {a : Addr} {xs : List Value} (h : RdV w (some a) xs) : ∀ j u, xs[j]? = some u → w.cell? (a.add j) = some u := by
  intro j u hu
  obtain ⟨hj, e⟩ := List.getElem?_eq_some_iff.1 hu
  rcases h with h1 | ⟨b, o, e1, _, h2⟩
  · subst h1; simp at hj
  · cases e1
    rw [Addr.add_lit, h2 j hj, e]
/-- A block that holds just these, and may be written. -/
def BlkV (w : World) (g : Nat) (t : TypeId) (xs : List Value) : Prop := w.heap[g]? = some (.cells xs.toArray t (0, 0))
theorem BlkV.lt {w : World} {g : Nat} {t : TypeId} {xs : List Value} (h : BlkV w g t xs) : g < w.heap.size := (Array.getElem?_eq_some_iff.1 h).1
theorem BlkV.same {w w' : World} {g : Nat} {t : TypeId} {xs : List Value} (h : BlkV w g t xs) (hb : w'.heap[g]? = w.heap[g]?) : BlkV w' g t xs := hb.trans h
theorem BlkV.below {w w' : World} {g : Nat} {t : TypeId} {xs : List Value} (h : BlkV w g t xs) (hb : Below w.heap.size w w') : BlkV w' g t xs := h.same (hb.block g h.lt)
theorem BlkV.cell {w : World} {g : Nat} {t : TypeId} {xs : List Value} (h : BlkV w g t xs) (i : Nat) (hi : i < xs.length) : w.cell? ⟨g, i, none⟩ = some xs[i] := by
  have h' : w.heap[g]? = _ := h
  simp [World.cell?, h', hi]
theorem BlkV.frozen {w : World} {g : Nat} {t : TypeId} {xs : List Value} (h : BlkV w g t xs) (i : Nat) : w.frozen? ⟨g, i, none⟩ = false := by
  have h' : w.heap[g]? = _ := h
  simp [World.frozen?, h']
theorem BlkV.rd {w : World} {g : Nat} {t : TypeId} {xs : List Value} (h : BlkV w g t xs) (n : Nat) : RdV w (some ⟨g, 0, none⟩) (xs.take n) := by
  refine .inr ⟨g, 0, rfl, h.lt, fun i hi => ?_⟩
  have : i < xs.length := by simp at hi; omega
  rw [Nat.zero_add, h.cell i this]
  simp
theorem BlkV.stored {w : World} {g : Nat} {t : TypeId} {xs : List Value} (h : BlkV w g t xs) (i : Nat) (x : Value) : BlkV (w.setCell ⟨g, i, none⟩ x) g t (xs.set i x) := by
  have hg := h.lt
  have h1 : w.heap[g]? = _ := h
  have e : w.heap[g] = .cells xs.toArray t (0, 0) := by
    rw [Array.getElem?_eq_getElem hg] at h1; exact Option.some.inj h1
  unfold BlkV
  simp [World.setCell, hg, Array.getElem_modify, e]
theorem BlkV.cellsSet : ∀ (vs : List Value) (o : Nat) {w : World} {g : Nat} {t : TypeId} {xs : List Value}, BlkV w g t xs → o + vs.length ≤ xs.length →
    BlkV (w.setCells g o vs) g t (xs.take o ++ vs ++ xs.drop (o + vs.length)) ∧ w.grownBy (w.setCells g o vs) (some g)
  | [], o, w, g, t, xs, h, _ => ⟨by simpa [World.setCells] using h, World.grownBy.refl _ _⟩
  | v :: r, o, w, g, t, xs, h, hl => by
    have hl' : o + 1 + r.length ≤ (xs.set o v).length := by simp at hl ⊢; omega
    obtain ⟨h1, h2⟩ := BlkV.cellsSet r (o + 1) (h.stored o v) hl'
    have e1 : (xs.set o v).take (o + 1) ++ r ++ (xs.set o v).drop (o + 1 + r.length) = xs.take o ++ (v :: r) ++ xs.drop (o + (v :: r).length) := by
      have ho : o < xs.length := by simp at hl; omega
      have ht : (xs.set o v).take (o + 1) = xs.take o ++ [v] := by
        rw [List.take_succ_eq_append_getElem (by simpa using ho), List.take_set_of_le (Nat.le_refl _)]
        simp
      have hd : (xs.set o v).drop (o + 1 + r.length) = xs.drop (o + (v :: r).length) := by
        rw [List.drop_set_of_lt (by omega)]
        congr 1
        simp; omega
      rw [ht, hd]
      simp
    rw [e1] at h1
    refine ⟨h1, ?_⟩
    have h0 : w.grownBy (w.setCell ⟨g, o, none⟩ v) (some g) := ⟨rfl, rfl, rfl, by simp [World.setCell], fun k _ hk => Below.heap_setCell _ _ _ _ (fun e => hk (by simp [e]))⟩
    exact ⟨h2.os.trans h0.os, h2.tape.trans h0.tape, h2.output.trans h0.output, Nat.le_trans h0.size h2.size, fun k hk hne => (h2.block k (Nat.lt_of_lt_of_le hk h0.size) hne).trans (h0.block k hk hne)⟩
/-- A list in a block of its own, from the block B on: n of them, the block's whole cells are xs. -/
def OwnV (B : Nat) (w : World) (t : TypeId) (v : Value) (n : Nat) (xs : List Value) : Prop :=
  (v = .slice none 0 0 ∧ n = 0 ∧ xs = []) ∨
  ∃ g, v = .slice (some ⟨g, 0, none⟩) n xs.length ∧ B ≤ g ∧ BlkV w g t xs ∧ n ≤ xs.length ∧ xs.length ≤ maxLen
theorem OwnV.keep {B : Nat} {w w' : World} {t : TypeId} {v : Value} {n : Nat} {xs : List Value} (h : OwnV B w t v n xs) (hb : ∀ g, v.ownBlock = some g → g < w.heap.size → w'.heap[g]? = w.heap[g]?) : OwnV B w' t v n xs := by
  rcases h with h | ⟨g, rfl, h2, h3, h4⟩
  · exact .inl h
  · exact .inr ⟨g, rfl, h2, h3.same (hb g rfl h3.lt), h4⟩
theorem OwnV.mono {B B' : Nat} {w : World} {t : TypeId} {v : Value} {n : Nat} {xs : List Value} (h : OwnV B w t v n xs) (hB : B' ≤ B) : OwnV B' w t v n xs := by
  rcases h with h | ⟨g, h1, h2, h3⟩
  · exact .inl h
  · exact .inr ⟨g, h1, Nat.le_trans hB h2, h3⟩
theorem OwnV.lt {B : Nat} {w : World} {t : TypeId} {v : Value} {n : Nat} {xs : List Value} (h : OwnV B w t v n xs) : ∀ g, v.ownBlock = some g → B ≤ g := by
  intro g hg
  rcases h with ⟨rfl, _⟩ | ⟨g', rfl, h2, _⟩
  · cases hg
  · have : g' = g := Option.some.inj hg
    omega
theorem OwnV.shape {B : Nat} {w : World} {t : TypeId} {v : Value} {n : Nat} {xs : List Value} (h : OwnV B w t v n xs) : ∃ ao, v = .slice ao n xs.length ∧ (ao = none → xs.length = 0) := by
  rcases h with ⟨rfl, rfl, rfl⟩ | ⟨g, rfl, _⟩
  · exact ⟨none, rfl, fun _ => rfl⟩
  · exact ⟨_, rfl, fun h => by cases h⟩
theorem OwnV.le {B : Nat} {w : World} {t : TypeId} {v : Value} {n : Nat} {xs : List Value} (h : OwnV B w t v n xs) : n ≤ xs.length ∧ xs.length ≤ maxLen := by
  rcases h with ⟨_, rfl, rfl⟩ | ⟨g, _, _, _, h4, h5⟩
  · exact ⟨Nat.le_refl _, Nat.zero_le _⟩
  · exact ⟨h4, h5⟩
theorem OwnV.rd {B : Nat} {w : World} {t : TypeId} {ao : Option Addr} {n c : Nat} {xs : List Value} (h : OwnV B w t (.slice ao n c) n xs) (m : Nat) : RdV w ao (xs.take m) := by
  rcases h with ⟨_, _, rfl⟩ | ⟨g, e, _, h3, _⟩
  · exact .inl (by simp)
  · have : ao = some ⟨g, 0, none⟩ := by injection e
    rw [this]; exact h3.rd m
theorem OwnV.nil (B : Nat) (w : World) (t : TypeId) : OwnV B w t (.slice none 0 0) 0 [] := .inl ⟨rfl, rfl, rfl⟩
/-- A list's source: what is appended. -/
theorem src_of {P : Program} {w : World} {tx e' : TypeId} (hk : P.underlying tx = some (.slice e')) {ao : Option Addr} {m c : Nat} {news : List Value} (hr : RdV w ao news) (hl : news.length = m) (h1 : ∀ u ∈ news, u.oneCell' = true) : Src P 1 tx (.slice ao m c) m news w := by
  cases ao with
  | none =>
    have hn : news = [] := by
      rcases hr with h | ⟨b, o, h, _⟩
      · exact h
      · cases h
    subst hn
    subst hl
    exact Src.ofNil w hk c
  | some a => exact Src.ofSlice w hk a m c news (by simp [hl]) hr.cells h1
theorem zeros_eq1 (z : Value) (hz : z.cells = #[z]) (k : Nat) : Builtin.zeroCells z.cells k = (List.replicate k z).toArray := by
  rw [hz]
  apply Array.ext
  · simp [Builtin.zeroCells]
  · intro i h1 h2
    simp [Builtin.zeroCells]
    have : i % 1 = 0 := by omega
    simp [this]
/-- What is known of an element's type. -/
structure ElemTy (P : Program) (t e : TypeId) (z : Value) (bt : Nat) : Prop where
  ht : P.underlying t = some (.slice e)
  hi : (P.info? e).map (fun i => (i.zero, i.size, i.bytes)) = some (some z, 1, bt)
  hz : z.cells = #[z]
theorem run_append_row {P : Program} {t e : TypeId} {z : Value} {bt : Nat} (T : ElemTy P t e z bt) (w : World) (B : Nat) (tx ty : TypeId) (v : Value) (n : Nat) (xs : List Value) (hown : OwnV B w e v n xs)
    (x : Value) (m : Nat) (news : List Value) (hs : Src P 1 tx x m news w) (hb : (n + m) * bt ≤ 140737488355328) (h63 : n + m ≤ maxLen) (hB : B ≤ w.heap.size) :
    ∃ v' w' xs', (Builtin.append_ #[t, tx] ty #[v, x]).run P w = .ok v' w' ∧ OwnV B w' e v' (n + m) xs' ∧ xs'.take (n + m) = xs.take n ++ news ∧ w.grownBy w' v.ownBlock ∧ (∀ Q : Value → Prop, Q z → (∀ u ∈ xs, Q u) → (∀ u ∈ news, Q u) → ∀ u ∈ xs', Q u) ∧ (n + m ≤ xs.length → xs'.length = xs.length) := by
  obtain ⟨i, hi, hz0, hz1, hz2⟩ := info_parts T.hi
  have hs' : Src P i.size tx x m news w := by rw [hz1]; exact hs
  have hnl : news.length = m := by simpa using hs.newsLen
  have grow : ∀ (base : Option Addr) (old : Nat), v = .slice base n old → old < n + m → (Builtin.firstCells i.size n (.slice base n old)).run P w.drew = .ok (xs.take n).toArray w.drew → (xs.take n).length = n → (n + m ≤ xs.length → False) →
      ∃ v' w' xs', (Builtin.append_ #[t, tx] ty #[v, x]).run P w = .ok v' w' ∧ OwnV B w' e v' (n + m) xs' ∧ xs'.take (n + m) = xs.take n ++ news ∧ w.grownBy w' v.ownBlock ∧ (∀ Q : Value → Prop, Q z → (∀ u ∈ xs, Q u) → (∀ u ∈ news, Q u) → ∀ u ∈ xs', Q u) ∧ (n + m ≤ xs.length → xs'.length = xs.length) := by
    intro base old hv ho hold htl hno
    have hge := grownCap_ge w (n + m) old e
    have hle := grownCap_le_maxLen w (n + m) old e h63
    have hr' := run_append_grow_src (P := P) w t tx ty e i z T.ht hi hz0 base n old (xs.take n) hold x m news hs' ho (by simp only [maxLen] at h63; omega) (growslice_fits ho (by rw [hz2]; exact hb))
    rw [zeros_eq1 z T.hz] at hr'
    have e1 : ((xs.take n ++ news).toArray ++ (List.replicate (grownCap w (n + m) old e - (n + m)) z).toArray) = (xs.take n ++ news ++ List.replicate (grownCap w (n + m) old e - (n + m)) z).toArray := by simp
    rw [e1] at hr'
    have hl : (xs.take n ++ news ++ List.replicate (grownCap w (n + m) old e - (n + m)) z).length = grownCap w (n + m) old e := by
      simp only [List.length_append, htl, hnl, List.length_replicate]; omega
    rw [hv]
    refine ⟨_, _, xs.take n ++ news ++ List.replicate (grownCap w (n + m) old e - (n + m)) z, hr', .inr ⟨w.heap.size, by rw [hl], hB, heap_alloc_new w.drew _, by rw [hl]; exact hge, by rw [hl]; exact hle⟩, ?_, ⟨rfl, rfl, rfl, by simp, fun k hk _ => Below.heap_alloc w.drew _ k hk⟩, ?_, fun h => (hno h).elim⟩
    · rw [List.take_append_of_le_length (by simp only [List.length_append, htl, hnl]; omega)]
      exact List.take_of_length_le (by simp only [List.length_append, htl, hnl]; omega)
    · intro Q qz qx qn u hu
      simp only [List.mem_append, List.mem_replicate] at hu
      rcases hu with (hu | hu) | ⟨_, rfl⟩
      · exact qx u (List.mem_of_mem_take hu)
      · exact qn u hu
      · exact qz
  rcases hown with ⟨rfl, rfl, rfl⟩ | ⟨g, rfl, hBg, hblk, hn, hm⟩
  · by_cases hm0 : m = 0
    · subst hm0
      have hnews : news = [] := List.eq_nil_of_length_eq_zero hnl
      subst hnews
      refine ⟨.slice none 0 0, w, [], ?_, .inl ⟨rfl, rfl, rfl⟩, by simp, World.grownBy.refl _ _, (fun Q _ _ _ u hu => nomatch hu), fun _ => rfl⟩
      rcases hs'.kind with ⟨e', hk⟩ | hk <;> simp [Builtin.append_, run_underlying T.ht, run_underlying hk, sizeOf, typeInfo, hi, hs'.len, hs'.cells]
    · exact grow none 0 rfl (by omega) (run_firstCells_none w.drew i.size 0 0 0) (by simp) (fun h => by simp at h; omega)
  · by_cases hroom : n + m ≤ xs.length
    · have hc : ∀ j, j < news.length → (w.cell? ⟨g, 0 + n * i.size + j, none⟩).isSome = true := by
        intro j hj
        have h2 : 0 + n * i.size + j < xs.length := by rw [hz1]; omega
        rw [hblk.cell _ h2]; rfl
      have hf : ∀ j, j < news.length → w.frozen? ⟨g, 0 + n * i.size + j, none⟩ = false := fun j _ => hblk.frozen _
      have hr' := run_append_room_src (P := P) w t tx ty e i T.ht hi g 0 n xs.length x m news hs' hroom hc hf
      obtain ⟨hset, hgr⟩ : BlkV (w.setCells g (0 + n * i.size) news) g e (xs.take n ++ news ++ xs.drop (n + m)) ∧ w.grownBy (w.setCells g (0 + n * i.size) news) (some g) := by
        have := BlkV.cellsSet news n hblk (by omega)
        rw [hnl] at this
        rw [hz1, Nat.mul_one, Nat.zero_add]
        exact this
      have hlen : (xs.take n ++ news ++ xs.drop (n + m)).length = xs.length := by simp [hnl]; omega
      refine ⟨_, _, xs.take n ++ news ++ xs.drop (n + m), hr', .inr ⟨g, by rw [hlen], hBg, hset, by rw [hlen]; exact hroom, by rw [hlen]; exact hm⟩, ?_, ?_, ?_, fun _ => hlen⟩
      · rw [List.take_append_of_le_length (by simp [hnl]; omega)]
        exact List.take_of_length_le (by simp [hnl]; omega)
      · exact hgr
      · intro Q qz qx qn u hu
        simp only [List.mem_append] at hu
        rcases hu with (hu | hu) | hu
        · exact qx u (List.mem_of_mem_take hu)
        · exact qn u hu
        · exact qx u (List.mem_of_mem_drop hu)
    · refine grow (some ⟨g, 0, none⟩) xs.length rfl (by omega) ?_ (by simp; omega) (fun h => hroom h)
      have := run_firstCells_some (P := P) w.drew i.size n ⟨g, 0, none⟩ n xs.length (xs.take n) (by rw [hz1]; simp; omega) (fun j u hu => (hblk.below (Below.refl _ _).drew).rd n |>.cells j u hu)
      exact this
/-- An append, as a step of a walk. -/
theorem wpList_append_row {P : Program} {t e : TypeId} {z : Value} {bt : Nat} (T : ElemTy P t e z bt) (w : World) {ops : Array Oper} {rest : List Oper} {o : Oper} {a : Act} {Q : Exit → Act → World → Prop} (hgd : o.guard = none) (s x : Operand) (tx : TypeId)
    (ho : o.op = .call { callee := .builtin .append, args := #[s, x], argTypes := #[t, tx] }) (B : Nat) (v : Value) (n : Nat) (xs : List Value) (hs : a.eval s = v) (hown : OwnV B w e v n xs)
    (xv : Value) (m : Nat) (news : List Value) (hx : a.eval x = xv) (hsrc : Src P 1 tx xv m news w) (hb : (n + m) * bt ≤ 140737488355328) (h63 : n + m ≤ maxLen) (hB : B ≤ w.heap.size)
    (h : ∀ v' w' xs', Hid (OwnV B w' e v' (n + m) xs') → Hid (xs'.take (n + m) = xs.take n ++ news) → w.grownBy w' v.ownBlock → Hid ((∀ Q : Value → Prop, Q z → (∀ u ∈ xs, Q u) → (∀ u ∈ news, Q u) → ∀ u ∈ xs', Q u) ∧ (n + m ≤ xs.length → xs'.length = xs.length)) → wpList P ops Q rest (a.put o.dst v') w') : wpList P ops Q (o :: rest) a w := by
  refine wpList_plain hgd fun K hK => ?_
  obtain ⟨v', w', xs', hrun, h2, h3, h4, h5⟩ := run_append_row T w B tx o.type v n xs hown xv m news hsrc hb h63 hB
  unfold Oper.wp execOp
  simp only [ho, resolve, invoke, builtin, Sem.run_bind, Sem.run_pure, Result.andThen_ok, List.map_toArray, List.map_cons, List.map_nil, hs, hx, hrun]
  exact hK _ _ (h v' w' xs' h2 h3 h4 h5)
end Go.Proofs.YtkjnbgekaifdfaaGreat
namespace Go.Proofs.YtkjnbgekaifdfaaGreat
open Go.ChangeShapes Go.WideShapes Go.ChangeAt Go.RowKit
set_option linter.unusedVariables false
set_option linter.unusedSimpArgs false
theorem tyT : ElemTy Tryz.prog 50 9 (.string ⟨#[]⟩) 16 := ⟨Tryz.underlying50, by kernel_rfl, rfl⟩
theorem tyN : ElemTy Tryz.prog 51 9 (.string ⟨#[]⟩) 16 := ⟨Tryz.underlying51, by kernel_rfl, rfl⟩
/-- Texts as values. -/
def tv (ss : List ByteArray) : List Value := ss.map Value.string
theorem tv_len (ss : List ByteArray) : (tv ss).length = ss.length := by simp [tv]
theorem tv_at (ss : List ByteArray) (i : Nat) (h : i < (tv ss).length) : (tv ss)[i] = .string (ss[i]'(by rw [← tv_len]; exact h)) := by simp [tv]
theorem tv_one (ss : List ByteArray) : ∀ u ∈ tv ss, u.oneCell' = true := by
  intro u hu
  simp only [tv, List.mem_map] at hu
  obtain ⟨s, _, rfl⟩ := hu
  rfl
theorem tv_append (a b : List ByteArray) : tv (a ++ b) = tv a ++ tv b := by simp [tv]
theorem tv_take (a : List ByteArray) (n : Nat) : (tv a).take n = tv (a.take n) := by simp [tv, List.map_take]
/-- Texts that can be read at an address. -/
def RdT (w : World) (a : Option Addr) (ss : List ByteArray) : Prop := RdV w a (tv ss)
theorem RdT.below {w w' : World} {a : Option Addr} {ss : List ByteArray} (h : RdT w a ss) (hb : Below w.heap.size w w') : RdT w' a ss := RdV.below h hb
theorem RdT.at {w : World} {a : Option Addr} {ss : List ByteArray} (h : RdT w a ss) (i : Nat) (hi : i < ss.length) : ∃ b o, a = some ⟨b, o, none⟩ ∧ b < w.heap.size ∧ w.cell? ⟨b, o + i, none⟩ = some (.string ss[i]) := by
  rcases h with h | ⟨b, o, rfl, h1, h2⟩
  · have := congrArg List.length h
    rw [tv_len] at this
    simp at this
    subst this
    simp at hi
  · refine ⟨b, o, rfl, h1, ?_⟩
    rw [h2 i (by rw [tv_len]; exact hi), tv_at]
/-- The mark behind a list of texts that is lent. -/
def mk : ByteArray := ⟨#[108, 101, 110, 116]⟩
end Go.Proofs.YtkjnbgekaifdfaaGreat
namespace Go.Proofs.YtkjnbgekaifdfaaGreat
open Go.ChangeShapes Go.WideShapes Go.ChangeAt Go.RowKit
set_option linter.unusedVariables false
set_option linter.unusedSimpArgs false
/-- A text of at most M bytes, as a value. -/
def QS (M : Nat) (u : Value) : Prop := ∃ s : ByteArray, u = .string s ∧ s.size ≤ M
theorem tv_of {M : Nat} : ∀ xs : List Value, (∀ u ∈ xs, QS M u) → ∃ ys, xs = tv ys ∧ ∀ s ∈ ys, s.size ≤ M
  | [], _ => ⟨[], rfl, by simp⟩
  | x :: xs, h => by
    obtain ⟨ys, e1, e2⟩ := tv_of xs (fun u hu => h u (by simp [hu]))
    obtain ⟨s, rfl, hs⟩ := h x (by simp)
    refine ⟨s :: ys, by rw [e1]; rfl, fun q hq => ?_⟩
    rcases List.mem_cons.1 hq with rfl | hq
    · exact hs
    · exact e2 q hq
theorem qs_tv {M : Nat} {ss : List ByteArray} (h : ∀ s ∈ ss, s.size ≤ M) : ∀ u ∈ tv ss, QS M u := by
  intro u hu
  simp only [tv, List.mem_map] at hu
  obtain ⟨s, hs, rfl⟩ := hu
  exact ⟨s, rfl, h s hs⟩
theorem tv_inj : ∀ {a b : List ByteArray}, tv a = tv b → a = b
  | [], [], _ => rfl
  | [], _ :: _, h => by simp [tv] at h
  | _ :: _, [], h => by simp [tv] at h
  | x :: a, y :: b, h => by
    simp only [tv, List.map_cons, List.cons.injEq, Value.string.injEq] at h
    rw [h.1, tv_inj (a := a) (b := b) h.2]
/-- A list of texts in a block of its own. -/
def OwnT (B : Nat) (w : World) (v : Value) (n : Nat) (ss : List ByteArray) (M : Nat) : Prop := OwnV B w 9 v n (tv ss) ∧ ∀ s ∈ ss, s.size ≤ M
theorem OwnT.mono {B B' : Nat} {w : World} {v : Value} {n : Nat} {ss : List ByteArray} {M : Nat} (h : OwnT B w v n ss M) (hB : B' ≤ B) : OwnT B' w v n ss M := ⟨h.1.mono hB, h.2⟩
theorem OwnT.nil (B : Nat) (w : World) (M : Nat) : OwnT B w (.slice none 0 0) 0 [] M := ⟨OwnV.nil B w 9, by simp⟩
theorem OwnT.rd {B : Nat} {w : World} {ao : Option Addr} {n c : Nat} {ss : List ByteArray} {M : Nat} (h : OwnT B w (.slice ao n c) n ss M) (m : Nat) : RdT w ao (ss.take m) := by
  have := h.1.rd m
  rw [tv_take] at this
  exact this
theorem OwnT.shape {B : Nat} {w : World} {v : Value} {n : Nat} {ss : List ByteArray} {M : Nat} (h : OwnT B w v n ss M) : ∃ ao, v = .slice ao n ss.length ∧ (ao = none → ss.length = 0) := by
  obtain ⟨ao, h1, h2⟩ := h.1.shape
  rw [tv_len] at h1 h2
  exact ⟨ao, h1, h2⟩
theorem OwnT.le {B : Nat} {w : World} {v : Value} {n : Nat} {ss : List ByteArray} {M : Nat} (h : OwnT B w v n ss M) : n ≤ ss.length ∧ ss.length ≤ maxLen := by
  have := h.1.le
  rw [tv_len] at this
  exact this
theorem wpList_append_T {t : TypeId} (T : ElemTy Tryz.prog t 9 (.string ⟨#[]⟩) 16) (w : World) {ops : Array Oper} {rest : List Oper} {o : Oper} {a : Act} {Q : Exit → Act → World → Prop} (hgd : o.guard = none) (s x : Operand) (tx e' : TypeId) (hk : Tryz.prog.underlying tx = some (.slice e'))
    (ho : o.op = .call { callee := .builtin .append, args := #[s, x], argTypes := #[t, tx] }) (B : Nat) (v : Value) (n : Nat) (ss : List ByteArray) (M : Nat) (hs : a.eval s = v) (hown : OwnT B w v n ss M)
    (ao : Option Addr) (m c : Nat) (ns : List ByteArray) (hx : a.eval x = .slice ao m c) (hr : RdT w ao ns) (hl : ns.length = m) (hM : ∀ s ∈ ns, s.size ≤ M) (hb : n + m ≤ 8796093022000) (hB : B ≤ w.heap.size)
    (h : ∀ v' w' ys, Hid (OwnT B w' v' (n + m) ys M) → Hid (ys.take (n + m) = ss.take n ++ ns) → w.grownBy w' v.ownBlock → wpList Tryz.prog ops Q rest (a.put o.dst v') w') : wpList Tryz.prog ops Q (o :: rest) a w := by
  refine wpList_append_row T w hgd s x tx ho B v n (tv ss) hs hown.1 (.slice ao m c) m (tv ns) hx (src_of hk hr (by rw [tv_len]; exact hl) (tv_one ns)) (by omega) (by simp only [maxLen]; omega) hB ?_
  intro v' w' xs' h1 h2 h3 h4
  obtain ⟨ys, rfl, hys⟩ := tv_of (M := M) xs' (h4.out.1 (QS M) ⟨⟨#[]⟩, rfl, Nat.zero_le _⟩ (qs_tv hown.2) (qs_tv hM))
  refine h v' w' ys ⟨h1.out, hys⟩ ?_ h3
  have h2' := h2.out
  rw [tv_take, tv_take, ← tv_append] at h2'
  exact tv_inj h2'
def CopyPost (ss : List ByteArray) (M : Nat) (w : World) (e : Ending) (w' : World) : Prop :=
  ∃ v ys, e = .returned v ∧ Hid (OwnT w.heap.size w' v ss.length ys M ∧ ys.take ss.length = ss ∧ Below w.heap.size w w')
end Go.Proofs.YtkjnbgekaifdfaaGreat
namespace Go.Proofs.YtkjnbgekaifdfaaGreat
open Go.ChangeShapes Go.WideShapes Go.ChangeAt Go.RowKit
set_option linter.unusedVariables false
set_option linter.unusedSimpArgs false
def vis (c : Int) : Bool := decide (33 ≤ c) && decide (c ≤ 126)
def dgt (c : Int) : Bool := decide (48 ≤ c) && decide (c ≤ 57)
theorem ret_bool {a b : Bool} (h : a = b) : Ending.returned (.bool a) = .returned (.bool b) := by rw [h]
/-- The byte that the front of a text stands for, and how many bytes of it say so; 0, if they say none. -/
def v2 (a b : Int) : Int := 10 * (a - 48) + (b - 48)
def v3 (a b c : Int) : Int := 100 * (a - 48) + 10 * (b - 48) + (c - 48)
def num3 (l : List Int) : Int × Int :=
  if l.length < 4 then (0, 0)
  else if dgt (l.getD 1 0) && dgt (l.getD 2 0) && dgt (l.getD 3 0) && decide (v3 (l.getD 1 0) (l.getD 2 0) (l.getD 3 0) ≤ 255) then (v3 (l.getD 1 0) (l.getD 2 0) (l.getD 3 0), 4)
  else (0, 0)
def esc (l : List Int) : Int × Int :=
  if l.length ≤ 1 then (0, 0)
  else if dgt (l.getD 1 0) then num3 l
  else if vis (l.getD 1 0) then (l.getD 1 0, 2) else (0, 0)
def fr (l : List Int) : Int × Int :=
  if !vis (l.getD 0 0) then (0, 0)
  else if l.getD 0 0 == 92 then esc l
  else (l.getD 0 0, 1)
end Go.Proofs.YtkjnbgekaifdfaaGreat
namespace Go.Proofs.YtkjnbgekaifdfaaGreat
open Go.ChangeShapes Go.WideShapes Go.ChangeAt Go.RowKit
set_option linter.unusedVariables false
set_option linter.unusedSimpArgs false
/-- Bytes that a backslash stands ahead of. -/
def spc (c : Int) : Bool := c == 46 || c == 92 || c == 34 || c == 59 || c == 40 || c == 41 || c == 64 || c == 36
/-- How a byte is written. -/
def tx1 (c : Int) : List Int := if c < 33 ∨ 126 < c then [92, 48 + c / 100, 48 + c / 10 % 10, 48 + c % 10] else if spc c then [92, c] else [c]
def tx (l : List Int) : List Int := l.flatMap tx1
end Go.Proofs.YtkjnbgekaifdfaaGreat
namespace Go.Proofs.YtkjnbgekaifdfaaGreat
open Go.ChangeShapes Go.WideShapes Go.ChangeAt Go.RowKit
set_option linter.unusedVariables false
set_option linter.unusedSimpArgs false
def fz (z : Int) : Int := if 65 ≤ z ∧ z ≤ 90 then z + 32 else z
/-- A block that came out of a text. -/
def Blk2 (w : World) (g : Nat) (zs : List Int) : Prop :=
  w.heap[g]? = some (.cells (zs.map (Value.int .u8)).toArray 5 (zs.length, zs.length + 1)) ∧ ∀ z ∈ zs, 0 ≤ z ∧ z ≤ 255
theorem Blk2.lt {w : World} {g : Nat} {zs : List Int} (h : Blk2 w g zs) : g < w.heap.size := (Array.getElem?_eq_some_iff.1 h.1).1
theorem Blk2.cell {w : World} {g : Nat} {zs : List Int} (h : Blk2 w g zs) (i : Nat) (hi : i < zs.length) : w.cell? ⟨g, i, none⟩ = some (.int .u8 (zs.getD i 0)) := by
  simp [World.cell?, h.1, hi]
theorem Blk2.frozen {w : World} {g : Nat} {zs : List Int} (h : Blk2 w g zs) (i : Nat) (hi : i < zs.length) : w.frozen? ⟨g, i, none⟩ = false := by
  simp [World.frozen?, h.1]; omega
theorem Blk2.rd {w : World} {g : Nat} {zs : List Int} (h : Blk2 w g zs) (n : Nat) : Rd w (some ⟨g, 0, none⟩) (zs.take n) := by
  refine ⟨.inr ⟨g, 0, rfl, h.lt, fun i hi => ?_⟩, fun z hz => h.2 z (List.mem_of_mem_take hz)⟩
  rw [Nat.zero_add, h.cell i (by simp at hi; omega)]
  have : i < n := by simp at hi; omega
  simp [List.getD_eq_getElem?_getD, this]
theorem Blk2.stored {w : World} {g : Nat} {zs : List Int} (h : Blk2 w g zs) (i : Nat) (z : Int) (hz : 0 ≤ z ∧ z ≤ 255) : Blk2 (w.setCell ⟨g, i, none⟩ (.int .u8 z)) g (zs.set i z) := by
  refine ⟨?_, fun x hx => ?_⟩
  · have hg := h.lt
    have h1 := h.1
    have e : w.heap[g] = .cells (zs.map (Value.int .u8)).toArray 5 (zs.length, zs.length + 1) := by
      rw [Array.getElem?_eq_getElem hg] at h1; exact Option.some.inj h1
    simp [World.setCell, hg, Array.getElem_modify, e, List.map_set]
  · rcases List.mem_or_eq_of_mem_set hx with hx | hx
    · exact h.2 x hx
    · subst hx; exact hz
theorem bytesRow_nums (s : ByteArray) (c : Nat) : bytesRow s c = ((nums s ++ List.replicate (c - s.size) 0).map (Value.int .u8)).toArray := by
  apply Array.ext'
  simp [bytesRow, nums]
theorem nums_bds (s : ByteArray) : ∀ z ∈ nums s, 0 ≤ z ∧ z ≤ 255 := by
  intro z hz
  simp only [nums, List.mem_map] at hz
  obtain ⟨b, _, rfl⟩ := hz
  have := b.toNat_lt
  omega
theorem conv_new (s : ByteArray) (w : World) : ∃ zs : List Int, (convert 9 29 (.string s)).run Tryz.prog w = .ok (.slice (some ⟨w.heap.size, 0, none⟩) s.size zs.length) (w.drew.alloc (.cells (zs.map (Value.int .u8)).toArray 5 (zs.length, zs.length + 1))) ∧
    Blk2 (w.drew.alloc (.cells (zs.map (Value.int .u8)).toArray 5 (zs.length, zs.length + 1))) w.heap.size zs ∧ zs.take s.size = nums s ∧ s.size ≤ zs.length := by
  have h := run_bytes_of_string (P := Tryz.prog) w 9 29 5 s Tryz.underlying9 Tryz.underlying29 Tryz.underlying5
  have hge := grownCap_ge w s.size 0 5
  have hl : (nums s ++ List.replicate (grownCap w s.size 0 5 - s.size) 0).length = grownCap w s.size 0 5 := by
    rw [List.length_append, nums_len, List.length_replicate]; omega
  refine ⟨nums s ++ List.replicate (grownCap w s.size 0 5 - s.size) 0, ?_, ⟨heap_alloc_new w.drew _, ?_⟩, ?_, by rw [hl]; exact hge⟩
  · rw [h, bytesRow_nums, hl]
    simp only [List.size_toArray, List.length_map, hl]
  · intro z hz
    simp only [List.mem_append, List.mem_replicate] at hz
    rcases hz with hz | ⟨_, rfl⟩
    · exact nums_bds s z hz
    · omega
  · rw [List.take_append_of_le_length (by rw [nums_len]; exact Nat.le_refl _), List.take_of_length_le (by rw [nums_len]; exact Nat.le_refl _)]
/-- The first k bytes are folded, the others as they were. -/
def FSt (l zs : List Int) (k : Nat) : Prop := l.length ≤ zs.length ∧ ∀ i, i < l.length → zs.getD i 0 = if i < k then fz (l.getD i 0) else l.getD i 0
theorem FSt.done {l zs : List Int} (h : FSt l zs l.length) : zs.take l.length = l.map fz := by
  apply List.ext_getElem
  · simp [h.1]
  · intro i h1 h2
    have hi : i < l.length := by simpa using h2
    have := h.2 i hi
    rw [if_pos hi] at this
    simp [List.getD_eq_getElem?_getD, List.getElem?_eq_getElem hi, List.getElem?_eq_getElem (show i < zs.length by have := h.1; omega)] at this
    simp [this]
theorem FSt.zero {l zs : List Int} (h : zs.take l.length = l) (hl : l.length ≤ zs.length) : FSt l zs 0 := by
  refine ⟨hl, fun i hi => ?_⟩
  rw [if_neg (by omega)]
  conv => rhs; rw [← h]
  simp [List.getD_eq_getElem?_getD, List.getElem?_take, hi]
theorem FSt.same {l zs : List Int} {k : Nat} (h : FSt l zs k) (hf : fz (l.getD k 0) = l.getD k 0) : FSt l zs (k + 1) := by
  refine ⟨h.1, fun i hi => ?_⟩
  rw [h.2 i hi]
  by_cases e : i = k
  · subst e; rw [if_neg (by omega), if_pos (by omega), hf]
  · by_cases e2 : i < k
    · rw [if_pos e2, if_pos (by omega)]
    · rw [if_neg e2, if_neg (by omega)]
theorem FSt.set {l zs : List Int} {k : Nat} (h : FSt l zs k) (hk : k < l.length) : FSt l (zs.set k (fz (l.getD k 0))) (k + 1) := by
  refine ⟨by rw [List.length_set]; exact h.1, fun i hi => ?_⟩
  have hl := h.1
  by_cases e : i = k
  · subst e
    rw [if_pos (by omega)]
    simp [List.getD_eq_getElem?_getD, List.getElem?_set, show i < zs.length by omega]
  · have : (zs.set k (fz (l.getD k 0))).getD i 0 = zs.getD i 0 := by
      simp [List.getD_eq_getElem?_getD, List.getElem?_set, show ¬ k = i by omega]
    rw [this, h.2 i hi]
    by_cases e2 : i < k
    · rw [if_pos e2, if_pos (by omega)]
    · rw [if_neg e2, if_neg (by omega)]
/-- The folded bytes. -/
def fl (s : ByteArray) : List Int := (nums s).map fz
/-- How two are ordered. -/
def cmp (a b : ByteArray) : Int := Lib.compareBytes (txt (fl a)) (txt (fl b))
end Go.Proofs.YtkjnbgekaifdfaaGreat
namespace Go.Proofs.YtkjnbgekaifdfaaGreat
open Go.ChangeShapes Go.WideShapes Go.ChangeAt Go.RowKit
set_option linter.unusedVariables false
set_option linter.unusedSimpArgs false
theorem nums_all (s : ByteArray) : ∀ z ∈ nums s, 0 ≤ z ∧ z ≤ 255 := by
  intro z hz
  simp only [nums, List.mem_map] at hz
  obtain ⟨b, _, rfl⟩ := hz
  have := b.toNat_lt
  omega
/-- The label's bytes and the place behind them; none, if a byte can't be read. -/
def go (l : List Int) (p : Nat) (out : List Int) : Option (List Int × Nat) :=
  if h : p < l.length ∧ l.getD p 0 ≠ 46 then
    if hn : (fr (l.drop p)).2 ≤ 0 then none
    else go l (p + (fr (l.drop p)).2.toNat) (out ++ [(fr (l.drop p)).1])
  else some (out, p)
termination_by l.length - p
decreasing_by omega
def chk (n : Nat) : Int := if 1 ≤ n ∧ n ≤ 63 then 0 else 4
set_option maxRecDepth 100000 in
set_option maxHeartbeats 400000 in
theorem chk_any (s : ByteArray) (w : World) (hs : s.size ≤ 9223372036854775807) :
    Calls Tryz.prog 71 #[.string s] w fun e w' => e = .returned (.int .i64 (chk s.size)) ∧ w' = w := by
  by_cases h : 1 ≤ s.size ∧ s.size ≤ 63
  · have h1 : ¬ (s.size : Int) < 1 := by omega
    have h2 : ¬ (63 : Int) < (s.size : Int) := by omega
    have HE : Hid (chk s.size = 0) := by show _ = _; unfold chk; rw [if_pos h]
    clear h
    go_enter Tryz.func71, Tryz.ntmps71
    go_wp2
    go_ret
    exact ⟨by rw [HE.out]; rfl, rfl⟩
  · have HE : Hid (chk s.size = 4) := by show _ = _; unfold chk; rw [if_neg h]
    have ho : (s.size : Int) < 1 ∨ (63 : Int) < (s.size : Int) := by omega
    clear h
    rcases ho with ho | ho
    all_goals
      go_enter Tryz.func71, Tryz.ntmps71
      go_wp2
      go_ret
      exact ⟨by rw [HE.out]; rfl, rfl⟩
theorem nums_extract (s : ByteArray) (p : Nat) : nums (s.extract p s.size) = (nums s).drop p := by
  simp only [nums, ByteArray.data_extract]
  rw [Array.toList_extract, List.extract_eq_take_drop, ← List.map_drop, List.take_of_length_le (by simp)]
theorem txt_size (l : List Int) : (⟨(txt l).toArray⟩ : ByteArray).size = l.length := by
  show (txt l).toArray.size = _
  simp [txt]
end Go.Proofs.YtkjnbgekaifdfaaGreat
namespace Go.Proofs.YtkjnbgekaifdfaaGreat
open Go.ChangeShapes Go.WideShapes Go.ChangeAt Go.RowKit
set_option linter.unusedVariables false
set_option linter.unusedSimpArgs false
/-- The size of a name. -/
def nsz : List ByteArray → Nat
  | [] => 1
  | s :: r => s.size + 1 + nsz r
theorem nsz_snoc (l : List ByteArray) (s : ByteArray) : nsz (l ++ [s]) = nsz l + s.size + 1 := by
  induction l with
  | nil => simp [nsz]; omega
  | cons x l ih => simp only [List.cons_append, nsz, ih]; omega
theorem nsz_le (l : List ByteArray) (k : Nat) : nsz (l.take k) ≤ nsz l := by
  induction l generalizing k with
  | nil => simp [nsz]
  | cons x l ih =>
    cases k with
    | zero => simp [nsz]; omega
    | succ k => simp only [List.take_succ_cons, nsz]; have := ih k; omega
theorem take_snocT (ss : List ByteArray) (k : Nat) (h : k < ss.length) : ss.take (k + 1) = ss.take k ++ [ss[k]] := List.take_succ_eq_append_getElem h
/-- Whether all labels may be; the error of a name. -/
def labsOk (ss : List ByteArray) : Prop := ∀ s ∈ ss, chk s.size = 0
instance (ss : List ByteArray) : Decidable (labsOk ss) := by unfold labsOk; exact inferInstance
def nck (ss : List ByteArray) : Int := if labsOk ss then (if 255 < nsz ss then 5 else 0) else 4
theorem chk_cases (n : Nat) : chk n = 0 ∨ chk n = 4 := by unfold chk; split <;> simp
/-- How many first labels of two lists are the same; how two lists stand, the first labels first. -/
def comR : List ByteArray → List ByteArray → Nat
  | x :: a, y :: b => if cmp x y = 0 then comR a b + 1 else 0
  | _, _ => 0
/-- The same, of names: from the last label on. -/
def ncom (a b : List ByteArray) : Nat := comR a.reverse b.reverse
end Go.Proofs.YtkjnbgekaifdfaaGreat
namespace Go.Proofs.YtkjnbgekaifdfaaGreat
open Go.ChangeShapes Go.WideShapes Go.ChangeAt Go.RowKit
set_option linter.unusedVariables false
set_option linter.unusedSimpArgs false
/-- What is asked of a name that is read: it lies there, and is not too great. -/
structure Nm (w : World) (a : Option Addr) (n : Nat) (ss : List ByteArray) : Prop where
  rd : RdT w a ss
  len : ss.length = n
  sz : nsz ss ≤ 1000000000000
theorem nsz_len : ∀ l : List ByteArray, l.length + 1 ≤ nsz l
  | [] => by simp [nsz]
  | x :: l => by have := nsz_len l; simp only [List.length_cons, nsz]; omega
theorem nsz_mem : ∀ (l : List ByteArray) (s : ByteArray), s ∈ l → s.size ≤ nsz l
  | x :: l, s, h => by
    simp only [nsz]
    rcases List.mem_cons.1 h with rfl | h
    · omega
    · have := nsz_mem l s h; omega
theorem Nm.below {w w' : World} {a : Option Addr} {n : Nat} {ss : List ByteArray} (h : Nm w a n ss) (hb : Below w.heap.size w w') : Nm w' a n ss := ⟨h.rd.below hb, h.len, h.sz⟩
theorem Nm.n63 {w : World} {a : Option Addr} {n : Nat} {ss : List ByteArray} (h : Nm w a n ss) : n ≤ 1000000000000 := by have := nsz_len ss; have := h.len; have := h.sz; omega
theorem Nm.mem {w : World} {a : Option Addr} {n : Nat} {ss : List ByteArray} (h : Nm w a n ss) (s : ByteArray) (hs : s ∈ ss) : s.size ≤ 1000000000000 := Nat.le_trans (nsz_mem ss s hs) h.sz
theorem beq_nat (k n : Nat) : ((k : Int) == (n : Int)) = (k == n) := by
  by_cases h : k = n
  · subst h; simp
  · have h2 : ¬ (k : Int) = (n : Int) := by omega
    rw [beq_false_of_ne h, beq_false_of_ne h2]
def nsame (ss ts : List ByteArray) : Bool := ss.length == ts.length && ncom ss ts == ss.length
def nunder (ss ts : List ByteArray) : Bool := ncom ss ts == ts.length
theorem nsz_drop (l : List ByteArray) (k : Nat) : nsz (l.drop k) ≤ nsz l := by
  induction l generalizing k with
  | nil => simp [nsz]
  | cons x l ih =>
    cases k with
    | zero => simp
    | succ k => simp only [List.drop_succ_cons, nsz]; have := ih k; omega
theorem nck_small {ss : List ByteArray} (h : nck ss = 0) : nsz ss ≤ 255 ∧ labsOk ss := by
  unfold nck at h
  split at h
  · rename_i h1
    split at h
    · cases h
    · exact ⟨by omega, h1⟩
  · cases h
end Go.Proofs.YtkjnbgekaifdfaaGreat
namespace Go.Proofs.YtkjnbgekaifdfaaGreat
open Go.ChangeShapes Go.WideShapes Go.ChangeAt Go.RowKit
set_option linter.unusedVariables false
set_option linter.unusedSimpArgs false
/-- A label's text; the text of labels, a . behind each. -/
def tb (s : ByteArray) : ByteArray := ⟨(txt (tx (nums s))).toArray⟩
theorem tyB : ElemTy Tryz.prog 29 5 (.int .u8 0) 1 := ⟨Tryz.underlying29, by kernel_rfl, rfl⟩
def QB (u : Value) : Prop := ∃ z : Int, u = .int .u8 z ∧ 0 ≤ z ∧ z ≤ 255
theorem bytes_of : ∀ xs : List Value, (∀ u ∈ xs, QB u) → ∃ zs : List Int, xs = zs.map (Value.int .u8) ∧ ∀ z ∈ zs, 0 ≤ z ∧ z ≤ 255
  | [], _ => ⟨[], rfl, by simp⟩
  | x :: xs, h => by
    obtain ⟨zs, e1, e2⟩ := bytes_of xs (fun u hu => h u (by simp [hu]))
    obtain ⟨z, rfl, hz⟩ := h x (by simp)
    refine ⟨z :: zs, by rw [e1]; rfl, fun q hq => ?_⟩
    rcases List.mem_cons.1 hq with rfl | hq
    · exact hz
    · exact e2 q hq
theorem qb_map {zs : List Int} (h : ∀ z ∈ zs, 0 ≤ z ∧ z ≤ 255) : ∀ u ∈ zs.map (Value.int .u8), QB u := by
  intro u hu
  simp only [List.mem_map] at hu
  obtain ⟨z, hz, rfl⟩ := hu
  exact ⟨z, rfl, h z hz⟩
theorem Own.all {B : Nat} {w : World} {v : Value} {n : Nat} {zs : List Int} (h : Own B w v n zs) : ∀ z ∈ zs, 0 ≤ z ∧ z ≤ 255 := by
  rcases h with ⟨_, _, rfl⟩ | ⟨g, _, _, hb, _⟩
  · simp
  · exact hb.2
theorem Own.toV {B : Nat} {w : World} {v : Value} {n : Nat} {zs : List Int} (h : Own B w v n zs) : OwnV B w 5 v n (zs.map (Value.int .u8)) := by
  rcases h with ⟨h1, h2, rfl⟩ | ⟨g, h1, h2, hb, h3, h4⟩
  · exact .inl ⟨h1, h2, rfl⟩
  · exact .inr ⟨g, by rw [List.length_map]; exact h1, h2, hb.1, by rw [List.length_map]; exact h3, by rw [List.length_map]; exact h4⟩
theorem OwnV.toOwn {B : Nat} {w : World} {v : Value} {n : Nat} {zs : List Int} (h : OwnV B w 5 v n (zs.map (Value.int .u8))) (hz : ∀ z ∈ zs, 0 ≤ z ∧ z ≤ 255) : Own B w v n zs := by
  rcases h with ⟨h1, h2, h3⟩ | ⟨g, h1, h2, hb, h3, h4⟩
  · exact .inl ⟨h1, h2, by simpa using h3⟩
  · rw [List.length_map] at h1 h3 h4
    exact .inr ⟨g, h1, h2, ⟨hb, hz⟩, h3, h4⟩
theorem int_inj : ∀ {a b : List Int}, a.map (Value.int .u8) = b.map (Value.int .u8) → a = b
  | [], [], _ => rfl
  | [], _ :: _, h => by simp at h
  | _ :: _, [], h => by simp at h
  | x :: a, y :: b, h => by
    simp only [List.map_cons, List.cons.injEq, Value.int.injEq, true_and] at h
    rw [h.1, int_inj (a := a) (b := b) h.2]
theorem cells_nums (t : ByteArray) : byteCells t = (nums t).map (Value.int .u8) := by
  simp [byteCells, nums]
/-- A text's bytes appended. -/
theorem wpList_append_str (w : World) {ops : Array Oper} {rest : List Oper} {o : Oper} {a : Act} {Q : Exit → Act → World → Prop} (hgd : o.guard = none) (s x : Operand)
    (ho : o.op = .call { callee := .builtin .append, args := #[s, x], argTypes := #[29, 9] }) (B : Nat) (v : Value) (n : Nat) (zs : List Int) (hs : a.eval s = v) (hown : Own B w v n zs)
    (t : ByteArray) (hx : a.eval x = .string t) (hb : n + t.size ≤ 140737488355328) (hB : B ≤ w.heap.size)
    (h : ∀ v' w' zs', Hid (Own B w' v' (n + t.size) zs') → Hid (zs'.take (n + t.size) = zs.take n ++ nums t) → w.grownBy w' v.ownBlock → wpList Tryz.prog ops Q rest (a.put o.dst v') w') : wpList Tryz.prog ops Q (o :: rest) a w := by
  refine wpList_append_row tyB w hgd s x 9 ho B v n (zs.map (Value.int .u8)) hs hown.toV (.string t) t.size (byteCells t) hx (Src.ofString w Tryz.underlying9 t) (by omega) (by simp only [maxLen]; omega) hB ?_
  intro v' w' xs' h1 h2 h3 h4
  obtain ⟨ys, rfl, hys⟩ := bytes_of xs' (h4.out.1 QB ⟨0, rfl, by omega, by omega⟩ (qb_map hown.all) (by rw [cells_nums]; exact qb_map (nums_all t)))
  refine h v' w' ys (h1.out.toOwn hys) ?_ h3
  have h2' := h2.out
  rw [cells_nums, ← List.map_take, ← List.map_take, ← List.map_append] at h2'
  exact int_inj h2'
/-- The bytes of labels, each with its length ahead. -/
def nby (l : List ByteArray) : List Int := l.flatMap fun s => (s.size : Int) :: nums s
theorem nby_snoc (l : List ByteArray) (s : ByteArray) : nby (l ++ [s]) = nby l ++ [(s.size : Int)] ++ nums s := by simp [nby]
theorem nby_len (l : List ByteArray) : (nby l).length + 1 = nsz l := by
  induction l with
  | nil => simp [nby, nsz]
  | cons x l ih => simp only [nby, List.flatMap_cons, List.length_append, List.length_cons, nums_len, nsz] at ih ⊢; omega
def nbytes (ss : List ByteArray) : List Int × Int := if nck ss = 0 then (nby ss ++ [0], 0) else ([], nck ss)
end Go.Proofs.YtkjnbgekaifdfaaGreat
namespace Go.Proofs.YtkjnbgekaifdfaaGreat
open Go.ChangeShapes Go.WideShapes Go.ChangeAt Go.RowKit
set_option linter.unusedVariables false
set_option linter.unusedSimpArgs false
/-- A label out of bytes. -/
def lb (l : List Int) : ByteArray := ⟨(txt l).toArray⟩
theorem lb_size (l : List Int) : (lb l).size = l.length := txt_size l
theorem nsz_bd (l : List ByteArray) (h : ∀ x ∈ l, x.size ≤ 63) : nsz l ≤ 64 * l.length + 1 := by
  induction l with
  | nil => simp [nsz]
  | cons x l ih =>
    have := ih (fun y hy => h y (by simp [hy]))
    have := h x (by simp)
    simp only [nsz, List.length_cons]
    omega
end Go.Proofs.YtkjnbgekaifdfaaGreat
namespace Go.Proofs.YtkjnbgekaifdfaaGreat
open Go.ChangeShapes Go.WideShapes Go.ChangeAt Go.RowKit
set_option linter.unusedVariables false
set_option linter.unusedSimpArgs false
/-- The labels from a place of bytes on, and the place behind them; none, if no name's bytes stand there. -/
def rgo (l : List Int) (p : Nat) (out : List ByteArray) : Option (List ByteArray × Nat) :=
  if h : p < l.length ∧ l.getD p 0 ≤ 63 then
    if l.getD p 0 = 0 then some (out, p + 1)
    else if (l.length : Int) - ((p : Int) + 1) < l.getD p 0 then none
    else rgo l (p + 1 + (l.getD p 0).toNat) (out ++ [lb ((l.drop (p + 1)).take (l.getD p 0).toNat)])
  else none
termination_by l.length - p
decreasing_by omega
def nread (l : List Int) (d : Int) : List ByteArray × Int × Int :=
  if d < 0 ∨ (l.length : Int) ≤ d then ([], 0, 2)
  else match rgo l d.toNat [] with
    | none => ([], 0, 8)
    | some (out, q) => if nck out = 0 then (out, (q : Int), 0) else ([], 0, 8)
theorem rgo_end (l : List Int) (p : Nat) (out : List ByteArray) (h : ¬ (p < l.length ∧ l.getD p 0 ≤ 63)) : rgo l p out = none := by rw [rgo, dif_neg h]
theorem rgo_zero (l : List Int) (p : Nat) (out : List ByteArray) (h : p < l.length ∧ l.getD p 0 ≤ 63) (h0 : l.getD p 0 = 0) : rgo l p out = some (out, p + 1) := by rw [rgo, dif_pos h, if_pos h0]
theorem rgo_short (l : List Int) (p : Nat) (out : List ByteArray) (h : p < l.length ∧ l.getD p 0 ≤ 63) (h0 : ¬ l.getD p 0 = 0) (h1 : (l.length : Int) - ((p : Int) + 1) < l.getD p 0) : rgo l p out = none := by rw [rgo, dif_pos h, if_neg h0, if_pos h1]
theorem rgo_step (l : List Int) (p : Nat) (out : List ByteArray) (h : p < l.length ∧ l.getD p 0 ≤ 63) (h0 : ¬ l.getD p 0 = 0) (h1 : ¬ (l.length : Int) - ((p : Int) + 1) < l.getD p 0) : rgo l p out = rgo l (p + 1 + (l.getD p 0).toNat) (out ++ [lb ((l.drop (p + 1)).take (l.getD p 0).toNat)]) := by
  rw [rgo, dif_pos h, if_neg h0, if_neg h1]
end Go.Proofs.YtkjnbgekaifdfaaGreat
namespace Go.Proofs.YtkjnbgekaifdfaaGreat
open Go.ChangeShapes Go.WideShapes Go.ChangeAt Go.RowKit
set_option linter.unusedVariables false
set_option linter.unusedSimpArgs false
theorem nums_back (l : List Int) (h : ∀ z ∈ l, 0 ≤ z ∧ z ≤ 255) : nums ⟨(txt l).toArray⟩ = l := by
  unfold nums txt
  simp only [List.map_map]
  conv => rhs; rw [← List.map_id l]
  apply List.map_congr_left
  intro z hz
  have := h z hz
  simp
  omega
theorem txt_back (s : ByteArray) : (⟨(txt (nums s)).toArray⟩ : ByteArray) = s := by
  have : txt (nums s) = s.data.toList := by
    unfold nums txt
    rw [List.map_map]
    conv => rhs; rw [← List.map_id s.data.toList]
    apply List.map_congr_left
    intro b _
    simp
  rw [this]
end Go.Proofs.YtkjnbgekaifdfaaGreat
namespace Go.Proofs.YtkjnbgekaifdfaaGreat
open Go.ChangeShapes Go.WideShapes Go.ChangeAt Go.RowKit
set_option linter.unusedVariables false
set_option linter.unusedSimpArgs false
theorem chk_ok {n : Nat} (h : chk n = 0) : 1 ≤ n ∧ n ≤ 63 := by
  unfold chk at h
  split at h
  · assumption
  · cases h
theorem rgo_nby : ∀ (ss : List ByteArray) (P R : List Int) (out : List ByteArray), labsOk ss → rgo (P ++ (nby ss ++ (0 :: R))) P.length out = some (out ++ ss, P.length + (nby ss).length + 1)
  | [], P, R, out, _ => by
    rw [rgo_zero]
    · simp [nby]
    · simp [nby, List.getD_eq_getElem?_getD]
    · simp [nby, List.getD_eq_getElem?_getD]
  | s :: r, P, R, out, hok => by
    have hs := chk_ok (hok s (by simp))
    have hf : nby (s :: r) ++ (0 :: R) = (s.size : Int) :: (nums s ++ (nby r ++ (0 :: R))) := by simp [nby]
    have hg : (P ++ (nby (s :: r) ++ (0 :: R))).getD P.length 0 = (s.size : Int) := by
      rw [hf]; simp [List.getD_eq_getElem?_getD]
    have hlen : (P ++ (nby (s :: r) ++ (0 :: R))).length = P.length + (1 + (s.size + ((nby r).length + (1 + R.length)))) := by
      rw [hf]; simp [nums_len]; omega
    have hd : ((P ++ (nby (s :: r) ++ (0 :: R))).drop (P.length + 1)).take s.size = nums s := by
      rw [hf, List.drop_append, List.drop_eq_nil_of_le (by omega), Nat.add_sub_cancel_left, List.nil_append]
      show (nums s ++ _).take s.size = nums s
      rw [List.take_append_of_le_length (by rw [nums_len]; exact Nat.le_refl _), List.take_of_length_le (by rw [nums_len]; exact Nat.le_refl _)]
    have hlb : lb (nums s) = s := txt_back s
    rw [rgo_step _ _ _ ⟨by rw [hlen]; omega, by rw [hg]; omega⟩ (by rw [hg]; omega) (by rw [hg, hlen]; omega)]
    rw [hg, Int.toNat_natCast, hd, hlb]
    have ih := rgo_nby r (P ++ ((s.size : Int) :: nums s)) R (out ++ [s]) (fun x hx => hok x (by simp [hx]))
    have e1 : P ++ (nby (s :: r) ++ (0 :: R)) = P ++ ((s.size : Int) :: nums s) ++ (nby r ++ (0 :: R)) := by rw [hf]; simp
    have e2 : (P ++ ((s.size : Int) :: nums s)).length = P.length + 1 + s.size := by simp [nums_len]; omega
    rw [e2] at ih
    rw [e1, ih]
    simp [nby, nums_len]
    omega
theorem nck_of {ss : List ByteArray} (h1 : nsz ss ≤ 255) (h2 : labsOk ss) : nck ss = 0 := by
  unfold nck
  rw [if_pos h2, if_neg (by omega)]
theorem nck_take (ss : List ByteArray) (k : Nat) (h : nck ss = 0) : nck (ss.take k) = 0 := by
  have := nck_small h
  exact nck_of (Nat.le_trans (nsz_le ss k) this.1) (fun s hs => this.2 s (List.mem_of_mem_take hs))
end Go.Proofs.YtkjnbgekaifdfaaGreat
namespace Go.Proofs.YtkjnbgekaifdfaaGreat
set_option linter.unusedVariables false
set_option linter.unusedSimpArgs false
/-- The label of a length at a place. -/
def qlab (l : List Int) (p n : Nat) : ByteArray := lb ((l.drop p).take n)
/-- Where a pointer at a place points. -/
def qto (l : List Int) (p : Nat) : Nat := (256 * (l.getD p 0 - 192) + l.getD (p + 1) 0).toNat
/-- A name read from a place on, in a stretch that began at st; bh: the place behind the first pointer; out: the labels so far. -/
def qgo (l : List Int) (back : Bool) (p st : Nat) (bh : Option Nat) (out : List ByteArray) : Option (List ByteArray × Nat) :=
  if h : p < l.length then
    if l.getD p 0 = 0 then some (out, bh.getD (p + 1))
    else if l.getD p 0 ≤ 63 then
      if p + 1 + (l.getD p 0).toNat ≤ l.length then
        if nck (out ++ [qlab l (p + 1) (l.getD p 0).toNat]) = 0 then qgo l back (p + 1 + (l.getD p 0).toNat) st bh (out ++ [qlab l (p + 1) (l.getD p 0).toNat]) else none
      else none
    else if back = true ∧ 192 ≤ l.getD p 0 ∧ p + 1 < l.length then
      if qto l p < st then qgo l back (qto l p) (qto l p) (some (bh.getD (p + 2))) out else none
    else none
  else none
termination_by (st, l.length - p)
theorem qgo_out {l : List Int} {back : Bool} {p st : Nat} {bh : Option Nat} {out : List ByteArray} (h : ¬ p < l.length) : qgo l back p st bh out = none := by rw [qgo, dif_neg h]
theorem qgo_end {l : List Int} {back : Bool} {p st : Nat} {bh : Option Nat} {out : List ByteArray} (h : p < l.length) (h0 : l.getD p 0 = 0) : qgo l back p st bh out = some (out, bh.getD (p + 1)) := by rw [qgo, dif_pos h, if_pos h0]
theorem qgo_lab {l : List Int} {back : Bool} {p st : Nat} {bh : Option Nat} {out : List ByteArray} (h : p < l.length) (h0 : ¬ l.getD p 0 = 0) (h1 : l.getD p 0 ≤ 63) (h2 : p + 1 + (l.getD p 0).toNat ≤ l.length) (h3 : nck (out ++ [qlab l (p + 1) (l.getD p 0).toNat]) = 0) :
    qgo l back p st bh out = qgo l back (p + 1 + (l.getD p 0).toNat) st bh (out ++ [qlab l (p + 1) (l.getD p 0).toNat]) := by rw [qgo, dif_pos h, if_neg h0, if_pos h1, if_pos h2, if_pos h3]
theorem qgo_labLong {l : List Int} {back : Bool} {p st : Nat} {bh : Option Nat} {out : List ByteArray} (h : p < l.length) (h0 : ¬ l.getD p 0 = 0) (h1 : l.getD p 0 ≤ 63) (h2 : ¬ p + 1 + (l.getD p 0).toNat ≤ l.length) :
    qgo l back p st bh out = none := by rw [qgo, dif_pos h, if_neg h0, if_pos h1, if_neg h2]
theorem qgo_labBad {l : List Int} {back : Bool} {p st : Nat} {bh : Option Nat} {out : List ByteArray} (h : p < l.length) (h0 : ¬ l.getD p 0 = 0) (h1 : l.getD p 0 ≤ 63) (h2 : p + 1 + (l.getD p 0).toNat ≤ l.length) (h3 : ¬ nck (out ++ [qlab l (p + 1) (l.getD p 0).toNat]) = 0) :
    qgo l back p st bh out = none := by rw [qgo, dif_pos h, if_neg h0, if_pos h1, if_pos h2, if_neg h3]
theorem qgo_ptr {l : List Int} {back : Bool} {p st : Nat} {bh : Option Nat} {out : List ByteArray} (h : p < l.length) (h1 : back = true ∧ 192 ≤ l.getD p 0 ∧ p + 1 < l.length) (h2 : qto l p < st) :
    qgo l back p st bh out = qgo l back (qto l p) (qto l p) (some (bh.getD (p + 2))) out := by
  rw [qgo, dif_pos h, if_neg (by have := h1.2.1; omega), if_neg (by have := h1.2.1; omega), if_pos h1, if_pos h2]
theorem qgo_ptrBad {l : List Int} {back : Bool} {p st : Nat} {bh : Option Nat} {out : List ByteArray} (h : p < l.length) (h1 : back = true ∧ 192 ≤ l.getD p 0 ∧ p + 1 < l.length) (h2 : ¬ qto l p < st) :
    qgo l back p st bh out = none := by
  rw [qgo, dif_pos h, if_neg (by have := h1.2.1; omega), if_neg (by have := h1.2.1; omega), if_pos h1, if_neg h2]
theorem qgo_no {l : List Int} {back : Bool} {p st : Nat} {bh : Option Nat} {out : List ByteArray} (h : p < l.length) (h0 : ¬ l.getD p 0 ≤ 63) (h1 : ¬ (back = true ∧ 192 ≤ l.getD p 0 ∧ p + 1 < l.length)) :
    qgo l back p st bh out = none := by rw [qgo, dif_pos h, if_neg (by omega), if_neg h0, if_neg h1]
/-- Induction along a reading. -/
theorem qgo_ind {l : List Int} {back : Bool} {P : Nat → Nat → Option Nat → List ByteArray → Prop} (R : Option (List ByteArray × Nat))
    (hend : ∀ p st bh out, p < l.length → l.getD p 0 = 0 → R = some (out, bh.getD (p + 1)) → P p st bh out)
    (hlab : ∀ p st bh out, p < l.length → ¬ l.getD p 0 = 0 → l.getD p 0 ≤ 63 → p + 1 + (l.getD p 0).toNat ≤ l.length → nck (out ++ [qlab l (p + 1) (l.getD p 0).toNat]) = 0 → qgo l back (p + 1 + (l.getD p 0).toNat) st bh (out ++ [qlab l (p + 1) (l.getD p 0).toNat]) = R → P (p + 1 + (l.getD p 0).toNat) st bh (out ++ [qlab l (p + 1) (l.getD p 0).toNat]) → P p st bh out)
    (hptr : ∀ p st bh out, p < l.length → back = true ∧ 192 ≤ l.getD p 0 ∧ p + 1 < l.length → qto l p < st → qgo l back (qto l p) (qto l p) (some (bh.getD (p + 2))) out = R → P (qto l p) (qto l p) (some (bh.getD (p + 2))) out → P p st bh out)
    (hR : R ≠ none) : ∀ (p st : Nat) (bh : Option Nat) (out : List ByteArray), qgo l back p st bh out = R → P p st bh out := by
  intro p st bh out h
  by_cases hp : p < l.length
  · by_cases h0 : l.getD p 0 = 0
    · rw [qgo_end hp h0] at h
      exact hend p st bh out hp h0 h.symm
    · by_cases h1 : l.getD p 0 ≤ 63
      · by_cases h2 : p + 1 + (l.getD p 0).toNat ≤ l.length
        · by_cases h3 : nck (out ++ [qlab l (p + 1) (l.getD p 0).toNat]) = 0
          · rw [qgo_lab hp h0 h1 h2 h3] at h
            exact hlab p st bh out hp h0 h1 h2 h3 h (qgo_ind R hend hlab hptr hR _ _ _ _ h)
          · rw [qgo_labBad hp h0 h1 h2 h3] at h; exact absurd h.symm hR
        · rw [qgo_labLong hp h0 h1 h2] at h; exact absurd h.symm hR
      · by_cases h2 : back = true ∧ 192 ≤ l.getD p 0 ∧ p + 1 < l.length
        · by_cases h3 : qto l p < st
          · rw [qgo_ptr hp h2 h3] at h
            exact hptr p st bh out hp h2 h3 h (qgo_ind R hend hlab hptr hR _ _ _ _ h)
          · rw [qgo_ptrBad hp h2 h3] at h; exact absurd h.symm hR
        · rw [qgo_no hp h1 h2] at h; exact absurd h.symm hR
  · rw [qgo_out hp] at h; exact absurd h.symm hR
termination_by p st => (st, l.length - p)
/-- More bytes behind change nothing that is read. -/
theorem getD_more {l m : List Int} {p : Nat} (h : p < l.length) : (l ++ m).getD p 0 = l.getD p 0 := by
  rw [List.getD_eq_getElem?_getD, List.getD_eq_getElem?_getD, List.getElem?_append_left h]
theorem qlab_more {l m : List Int} {p n : Nat} (h : p + n ≤ l.length) : qlab (l ++ m) p n = qlab l p n := by
  unfold qlab
  congr 1
  rw [List.drop_append_of_le_length (by omega), List.take_append_of_le_length (by simp; omega)]
theorem qto_more {l m : List Int} {p : Nat} (h : p + 1 < l.length) : qto (l ++ m) p = qto l p := by
  unfold qto; rw [getD_more (by omega), getD_more h]
theorem qgo_more {l m : List Int} {p st : Nat} {bh : Option Nat} {back : Bool} {out n : List ByteArray} {q : Nat} (h : qgo l back p st bh out = some (n, q)) : qgo (l ++ m) back p st bh out = some (n, q) := by
  have hL : (l ++ m).length = l.length + m.length := by simp
  refine qgo_ind (P := fun p st bh out => qgo (l ++ m) back p st bh out = some (n, q)) (some (n, q)) ?_ ?_ ?_ (by simp) p st bh out h
  · intro p st bh out hp h0 e
    rw [qgo_end (by omega) (by rw [getD_more hp]; exact h0), e]
  · intro p st bh out hp h0 h1 h2 h3 _ ih
    have e := getD_more (m := m) hp
    have e2 := qlab_more (m := m) h2
    rw [qgo_lab (by omega) (by rw [e]; exact h0) (by rw [e]; exact h1) (by rw [e]; omega) (by rw [e, e2]; exact h3), e, e2]
    exact ih
  · intro p st bh out hp h1 h2 _ ih
    have e := getD_more (m := m) hp
    have e2 := qto_more (m := m) h1.2.2
    rw [qgo_ptr (by omega) ⟨h1.1, by rw [e]; exact h1.2.1, by have := h1.2.2; omega⟩ (by rw [e2]; exact h2), e2]
    exact ih
/-- What stands at a place: the labels t, up toq e; st: where the stretch began. -/
inductive Stands (l : List Int) : Nat → Nat → List ByteArray → Nat → Prop
  | root (st p : Nat) (h : p < l.length) (h0 : l.getD p 0 = 0) : Stands l st p [] (p + 1)
  | label (st p : Nat) (s : ByteArray) (t : List ByteArray) (e : Nat) (hs : 1 ≤ s.size ∧ s.size ≤ 63) (h : p + 1 + s.size ≤ l.length) (h0 : l.getD p 0 = (s.size : Int)) (hl : qlab l (p + 1) s.size = s) (ht : Stands l st (p + 1 + s.size) t e) : Stands l st p (s :: t) e
  | point (st p toq : Nat) (t : List ByteArray) (e : Nat) (h : p + 1 < l.length) (h0 : 192 ≤ l.getD p 0) (h1 : qto l p = toq) (hlt : toq < st) (ht : Stands l toq toq t e) : Stands l st p t (p + 2)
theorem nck_pre {a b : List ByteArray} (h : nck (a ++ b) = 0) : nck a = 0 := by
  have := nck_take (a ++ b) a.length h
  simpa using this
theorem Stands.read {l : List Int} {st p : Nat} {t : List ByteArray} {e : Nat} (h : Stands l st p t e) : ∀ (bh : Option Nat) (out : List ByteArray), nck (out ++ t) = 0 → qgo l true p st bh out = some (out ++ t, bh.getD e) := by
  induction h with
  | root st p h h0 => intro bh out _; rw [qgo_end h h0]; simp
  | label st p s t e hs h h0 hl ht ih =>
    intro bh out hk
    have hk' : nck ((out ++ [s]) ++ t) = 0 := by simpa using hk
    have e1 : (l.getD p 0).toNat = s.size := by rw [h0]; simp
    rw [qgo_lab (by omega) (by omega) (by omega) (by rw [e1]; exact h) (by rw [e1, hl]; exact nck_pre hk'), e1, hl, ih bh _ hk']
    simp
  | point st p toq t e h h0 h1 hlt ht ih =>
    intro bh out hk
    rw [qgo_ptr (by omega) ⟨rfl, h0, h⟩ (by rw [h1]; exact hlt), h1, ih _ _ hk]
    simp
theorem Stands.more {l m : List Int} {st p : Nat} {t : List ByteArray} {e : Nat} (h : Stands l st p t e) : Stands (l ++ m) st p t e := by
  have hL : (l ++ m).length = l.length + m.length := by simp
  induction h with
  | root st p h h0 => exact .root st p (by omega) (by rw [getD_more h]; exact h0)
  | label st p s t e hs h h0 hl ht ih => exact .label st p s t e hs (by omega) (by rw [getD_more (by omega)]; exact h0) (by rw [qlab_more h]; exact hl) ih
  | point st p toq t e h h0 h1 hlt ht ih => exact .point st p toq t e (by omega) (by rw [getD_more (by omega)]; exact h0) (by rw [qto_more h]; exact h1) hlt ih
end Go.Proofs.YtkjnbgekaifdfaaGreat
namespace Go.Proofs.YtkjnbgekaifdfaaGreat
set_option linter.unusedVariables false
set_option linter.unusedSimpArgs false
/-- A name's bytes without pointers, as a text. -/
def qkey (t : List ByteArray) : ByteArray := lb (nby t ++ [0])
/-- The place that is kept for a text. -/
def qfind : List (ByteArray × Nat) → ByteArray → Option Nat
  | [], _ => none
  | (k, p) :: r, x => if k = x then some p else qfind r x
/-- A name's bytes, with a pointer in the place of its longest tail that is kept; how many of its labels stand ahead. -/
def qshort (pl : List (ByteArray × Nat)) : List ByteArray → List Int
  | [] => [0]
  | s :: t => match qfind pl (qkey (s :: t)) with
    | some p => [192 + (p : Int) / 256, (p : Int) % 256]
    | none => (s.size : Int) :: (nums s ++ qshort pl t)
def qown (pl : List (ByteArray × Nat)) : List ByteArray → Nat
  | [] => 0
  | s :: t => match qfind pl (qkey (s :: t)) with
    | some p => 0
    | none => qown pl t + 1
/-- What is kept behind: m labels stand at start. -/
def qkeep (pl : List (ByteArray × Nat)) (start : Nat) : Nat → List ByteArray → List (ByteArray × Nat)
  | 0, _ => pl
  | m + 1, [] => pl
  | m + 1, s :: t => if 16384 ≤ start then pl else qkeep (if (qfind pl (qkey (s :: t))).isSome then pl else (qkey (s :: t), start) :: pl) (start + 1 + s.size) m t
theorem qfind_mem {pl : List (ByteArray × Nat)} {k : ByteArray} {p : Nat} (h : qfind pl k = some p) : (k, p) ∈ pl := by
  induction pl with
  | nil => simp [qfind] at h
  | cons a r ih =>
    obtain ⟨k', p'⟩ := a
    simp only [qfind] at h
    split at h
    · next e => cases h; subst e; simp
    · exact List.mem_cons_of_mem _ (ih h)
theorem qshort_len (pl : List (ByteArray × Nat)) : ∀ t, (∀ s ∈ t, 1 ≤ s.size) → 1 ≤ (qshort pl t).length ∧ (qshort pl t).length ≤ nsz t
  | [], _ => by simp [qshort, nsz]
  | s :: t, h => by
    have ih := qshort_len pl t (fun x hx => h x (List.mem_cons_of_mem _ hx))
    have hs := h s (by simp)
    have hn : 1 ≤ nsz t := by cases t <;> simp [nsz] ; omega
    unfold qshort
    split
    · simp only [List.length_cons, List.length_nil, nsz]; omega
    · simp only [List.length_cons, List.length_append, nums_len, nsz]; omega
/-- What is kept stands there. -/
def QInv (tx : List Int) (pl : List (ByteArray × Nat)) : Prop :=
  ∀ k p, (k, p) ∈ pl → p < tx.length ∧ p < 16384 ∧ ∃ t e, k = qkey t ∧ nck t = 0 ∧ t ≠ [] ∧ Stands tx p p t e
theorem QInv.more {tx m : List Int} {pl : List (ByteArray × Nat)} (h : QInv tx pl) : QInv (tx ++ m) pl := by
  intro k p hk
  obtain ⟨h1, h2, t, e, h3, h4, h5, h6⟩ := h k p hk
  exact ⟨by simp; omega, h2, t, e, h3, h4, h5, h6.more⟩
theorem nums_lb (l : List Int) (h : ∀ z ∈ l, 0 ≤ z ∧ z ≤ 255) : nums (lb l) = l := nums_back l h
theorem lb_nums (s : ByteArray) : lb (nums s) = s := txt_back s
theorem nby_bd : ∀ t : List ByteArray, labsOk t → ∀ z ∈ nby t ++ [0], 0 ≤ z ∧ z ≤ 255 := by
  intro t h z hz
  simp only [List.mem_append, nby, List.mem_flatMap, List.mem_cons, List.mem_singleton, List.not_mem_nil, or_false] at hz
  rcases hz with ⟨s, hs, rfl | hz⟩ | rfl
  · have := chk_ok (h s hs); omega
  · exact nums_all s z hz
  · omega
theorem qkey_inj {a b : List ByteArray} (ha : labsOk a) (hb : labsOk b) (h : qkey a = qkey b) : a = b := by
  have e : nby a ++ [0] = nby b ++ [0] := by
    have := congrArg nums h
    unfold qkey at this
    rwa [nums_lb _ (nby_bd a ha), nums_lb _ (nby_bd b hb)] at this
  have e' := List.append_cancel_right e
  clear e h
  induction a generalizing b with
  | nil =>
    cases b with
    | nil => rfl
    | cons s t => simp [nby] at e'
  | cons s t ih =>
    cases b with
    | nil => simp [nby] at e'
    | cons s' t' =>
      simp only [nby, List.flatMap_cons, List.cons_append, List.cons.injEq] at e'
      obtain ⟨e1, e2⟩ := e'
      have hl : (nums s).length = (nums s').length := by rw [nums_len, nums_len]; omega
      have e3 := List.append_inj e2 hl
      have : s = s' := by rw [← lb_nums s, ← lb_nums s', e3.1]
      subst this
      rw [ih (fun x hx => ha x (List.mem_cons_of_mem _ hx)) (fun x hx => hb x (List.mem_cons_of_mem _ hx)) e3.2]
theorem labs_of {t : List ByteArray} (h : nck t = 0) : labsOk t := (nck_small h).2
theorem qlab_here (tx m : List Int) (s : ByteArray) (z : Int) : qlab (tx ++ (z :: (nums s ++ m))) (tx.length + 1) s.size = s := by
  unfold qlab
  have : (tx ++ (z :: (nums s ++ m))).drop (tx.length + 1) = nums s ++ m := by
    rw [List.drop_append]; simp
  rw [this, List.take_append_of_le_length (by rw [nums_len]; exact Nat.le_refl _), List.take_of_length_le (by rw [nums_len]; exact Nat.le_refl _), lb_nums]
theorem getD_here (tx m : List Int) (z : Int) : (tx ++ (z :: m)).getD tx.length 0 = z := by
  rw [List.getD_eq_getElem?_getD, List.getElem?_append_right (Nat.le_refl _)]; simp
/-- What is written stands where it begins, in whatever stretch that began behind all that was kept. -/
theorem short_stands (pl : List (ByteArray × Nat)) : ∀ (t : List ByteArray) (tx R : List Int) (st : Nat), QInv tx pl → labsOk t → (∀ k p, (k, p) ∈ pl → p < st) → Stands (tx ++ (qshort pl t ++ R)) st tx.length t (tx.length + (qshort pl t).length)
  | [], tx, R, st, _, _, _ => by
    simp only [qshort, List.length_cons, List.length_nil]
    exact .root st _ (by simp) (by simp)
  | s :: t, tx, R, st, hI, hl, hst => by
    unfold qshort
    split
    · next p hf =>
      obtain ⟨h1, h2, t', e, h3, h4, h5, h6⟩ := hI _ _ (qfind_mem hf)
      have : s :: t = t' := qkey_inj hl (labs_of h4) h3
      subst this
      have hp := hst _ _ (qfind_mem hf)
      have hg : (tx ++ ([192 + (p : Int) / 256, (p : Int) % 256] ++ R)).getD tx.length 0 = 192 + (p : Int) / 256 := by simp
      have hg1 : (tx ++ ([192 + (p : Int) / 256, (p : Int) % 256] ++ R)).getD (tx.length + 1) 0 = (p : Int) % 256 := by
        simp
      refine .point st _ p (s :: t) e ?_ ?_ ?_ hp h6.more
      · simp
      · rw [hg]; omega
      · unfold qto; rw [hg, hg1]; omega
    · next hf =>
      have hs := chk_ok (hl s (by simp))
      have ih := short_stands pl t (tx ++ ((s.size : Int) :: nums s)) R st hI.more (fun x hx => hl x (List.mem_cons_of_mem _ hx)) hst
      have e1 : tx ++ ((s.size : Int) :: nums s) ++ (qshort pl t ++ R) = tx ++ ((s.size : Int) :: (nums s ++ qshort pl t) ++ R) := by simp
      have e2 : (tx ++ ((s.size : Int) :: nums s)).length = tx.length + 1 + s.size := by simp [nums_len]; omega
      rw [e1, e2] at ih
      have e3 : tx ++ ((s.size : Int) :: (nums s ++ qshort pl t) ++ R) = tx ++ ((s.size : Int) :: (nums s ++ (qshort pl t ++ R))) := by simp
      refine .label st _ s t _ hs ?_ ?_ ?_ ?_
      · simp [nums_len]; omega
      · rw [e3]; exact getD_here _ _ _
      · rw [e3]; exact qlab_here _ _ _ _
      · have : tx.length + ((s.size : Int) :: (nums s ++ qshort pl t)).length = tx.length + 1 + s.size + (qshort pl t).length := by simp [nums_len]; omega
        rw [this]; exact ih
/-- What is kept behind a name stands there, too. -/
theorem keep_inv (pl0 : List (ByteArray × Nat)) (R : List Int) : ∀ (t : List ByteArray) (tx : List Int) (pl : List (ByteArray × Nat)) (m : Nat), m ≤ qown pl0 t → QInv tx pl0 → labsOk t → nsz t ≤ 255 → QInv (tx ++ (qshort pl0 t ++ R)) pl →
    (∀ k p, (k, p) ∈ pl0 → p ≤ tx.length) → QInv (tx ++ (qshort pl0 t ++ R)) (qkeep pl tx.length m t)
  | [], tx, pl, m, _, _, _, _, hP, _ => by cases m <;> exact hP
  | s :: t, tx, pl, 0, _, _, _, _, hP, _ => hP
  | s :: t, tx, pl, m + 1, hm, hI, hl, hz, hP, hst => by
    unfold qkeep
    split
    · exact hP
    · next h16 =>
      have hlt : ∀ k p, (k, p) ∈ pl0 → p < tx.length := fun k p h => (hI k p h).1
      have hstand := short_stands pl0 (s :: t) tx R tx.length hI hl hlt
      have hs := chk_ok (hl s (by simp))
      have hP' : QInv (tx ++ (qshort pl0 (s :: t) ++ R)) (if (qfind pl (qkey (s :: t))).isSome then pl else (qkey (s :: t), tx.length) :: pl) := by
        split
        · exact hP
        · intro k p hk
          rcases List.mem_cons.1 hk with e | hk
          · cases e
            have := (qshort_len pl0 (s :: t) (fun x hx => (chk_ok (hl x hx)).1)).1
            exact ⟨by simp only [List.length_append]; omega, by omega, s :: t, _, rfl, nck_of hz hl, by simp, hstand⟩
          · exact hP k p hk
      unfold qown at hm
      split at hm
      · omega
      · next hf =>
        have e0 : qshort pl0 (s :: t) = (s.size : Int) :: (nums s ++ qshort pl0 t) := by
          rw [qshort, hf]
        have e1 : tx ++ ((s.size : Int) :: nums s) ++ (qshort pl0 t ++ R) = tx ++ (qshort pl0 (s :: t) ++ R) := by rw [e0]; simp
        have e2 : (tx ++ ((s.size : Int) :: nums s)).length = tx.length + 1 + s.size := by simp [nums_len]; omega
        have ih := keep_inv pl0 R t (tx ++ ((s.size : Int) :: nums s)) (if (qfind pl (qkey (s :: t))).isSome then pl else (qkey (s :: t), tx.length) :: pl) m (by omega) hI.more (fun x hx => hl x (List.mem_cons_of_mem _ hx)) (by simp only [nsz] at hz; omega) (by rw [e1]; exact hP') (fun k p h => by have := hst k p h; rw [e2]; omega)
        rw [e1, e2] at ih
        exact ih
end Go.Proofs.YtkjnbgekaifdfaaGreat
namespace Go.Proofs.YtkjnbgekaifdfaaGreat
set_option linter.unusedVariables false
set_option linter.unusedSimpArgs false
/-- Where the label k begins. -/
def offs (ss : List ByteArray) (k : Nat) : Nat := (nby (ss.take k)).length
theorem offs_zero (ss : List ByteArray) : offs ss 0 = 0 := by simp [offs, nby]
theorem offs_succ (ss : List ByteArray) (k : Nat) (h : k < ss.length) : offs ss (k + 1) = offs ss k + 1 + ss[k].size := by
  unfold offs
  rw [take_snocT ss k h, nby_snoc]
  simp [nums_len]
  omega
theorem nby_split (ss : List ByteArray) (k : Nat) : nby ss = nby (ss.take k) ++ nby (ss.drop k) := by
  conv => lhs; rw [← List.take_append_drop k ss]
  unfold nby
  rw [List.flatMap_append]
theorem offs_le (ss : List ByteArray) (k : Nat) : offs ss k + 1 ≤ nsz ss := by
  have := nby_len (ss.take k)
  have := nsz_le ss k
  unfold offs; omega
theorem qkey_size (ss : List ByteArray) : (qkey ss).size = nsz ss := by
  unfold qkey; rw [lb_size]; have := nby_len ss; simp; omega
theorem qkey_nums (ss : List ByteArray) (h : labsOk ss) : nums (qkey ss) = nby ss ++ [0] := nums_lb _ (nby_bd ss h)
theorem qkey_at (ss : List ByteArray) (h : labsOk ss) (k : Nat) (hk : k < ss.length) : (nums (qkey ss)).getD (offs ss k) 0 = (ss[k].size : Int) := by
  rw [qkey_nums ss h, nby_split ss k, List.append_assoc]
  unfold offs
  rw [List.getD_eq_getElem?_getD, List.getElem?_append_right (Nat.le_refl _), Nat.sub_self]
  rw [show ss.drop k = ss[k] :: ss.drop (k + 1) from (List.drop_eq_getElem_cons hk)]
  unfold nby
  rw [List.flatMap_cons]
  rfl
theorem qkey_end (ss : List ByteArray) (h : labsOk ss) : (nums (qkey ss)).getD (offs ss ss.length) 0 = 0 := by
  rw [qkey_nums ss h]
  unfold offs
  rw [List.take_of_length_le (Nat.le_refl _), List.getD_eq_getElem?_getD, List.getElem?_append_right (Nat.le_refl _), Nat.sub_self]
  rfl
theorem nums_inj9 {a b : ByteArray} (h : nums a = nums b) : a = b := by rw [← lb_nums a, ← lb_nums b, h]
theorem qkey_tail (ss : List ByteArray) (h : labsOk ss) (k : Nat) : (qkey ss).extract (offs ss k) (qkey ss).size = qkey (ss.drop k) := by
  have hd : labsOk (ss.drop k) := fun x hx => h x (List.mem_of_mem_drop hx)
  apply nums_inj9
  rw [qkey_nums _ hd, nums_extract, qkey_nums ss h, nby_split ss k, List.append_assoc]
  unfold offs
  rw [List.drop_append_of_le_length (Nat.le_refl _), List.drop_length, List.nil_append]
end Go.Proofs.YtkjnbgekaifdfaaGreat
namespace Go.Proofs.YtkjnbgekaifdfaaGreat
set_option linter.unusedVariables false
set_option linter.unusedSimpArgs false
theorem short_at (pl : List (ByteArray × Nat)) : ∀ (ss : List ByteArray) (k p : Nat), k < ss.length → (∀ j, j < k → qfind pl (qkey (ss.drop j)) = none) → qfind pl (qkey (ss.drop k)) = some p →
    qown pl ss = k ∧ qshort pl ss = nby (ss.take k) ++ [192 + (p : Int) / 256, (p : Int) % 256]
  | [], k, p, hk, _, _ => by simp at hk
  | s :: t, 0, p, _, _, hf => by
    rw [List.drop_zero] at hf
    constructor
    · rw [qown, hf]
    · rw [qshort, hf]; simp [nby]
  | s :: t, k + 1, p, hk, hn, hf => by
    have h0 := hn 0 (by omega)
    rw [List.drop_zero] at h0
    have ih := short_at pl t k p (by simpa using hk) (fun j hj => by have := hn (j + 1) (by omega); simpa using this) (by simpa using hf)
    constructor
    · rw [qown, h0]; simp [ih.1]
    · rw [qshort, h0]
      simp only
      rw [ih.2]
      simp [nby]
theorem short_none (pl : List (ByteArray × Nat)) : ∀ (ss : List ByteArray), (∀ j, j < ss.length → qfind pl (qkey (ss.drop j)) = none) → qown pl ss = ss.length ∧ qshort pl ss = nby ss ++ [0]
  | [], _ => by simp [qown, qshort, nby]
  | s :: t, hn => by
    have h0 := hn 0 (by simp)
    rw [List.drop_zero] at h0
    have ih := short_none pl t (fun j hj => by have := hn (j + 1) (by simpa using hj); simpa using this)
    constructor
    · rw [qown, h0]; simp [ih.1]
    · rw [qshort, h0]
      simp only
      rw [ih.2]
      simp [nby]
/-- How many bytes stand ahead of a pointer, or all. -/
def qob (pl : List (ByteArray × Nat)) (ss : List ByteArray) : Nat := if qown pl ss < ss.length then offs ss (qown pl ss) else nsz ss
theorem qown_le (pl : List (ByteArray × Nat)) : ∀ ss : List ByteArray, qown pl ss ≤ ss.length
  | [] => by simp [qown]
  | s :: t => by
    have ih := qown_le pl t
    unfold qown
    split
    · omega
    · simp; omega
theorem qown_nil : ∀ ss : List ByteArray, qown [] ss = ss.length := fun ss => (short_none [] ss (fun _ _ => rfl)).1
theorem qshort_nil : ∀ ss : List ByteArray, qshort [] ss = nby ss ++ [0] := fun ss => (short_none [] ss (fun _ _ => rfl)).2
theorem offs_lt {ss : List ByteArray} {j k : Nat} (h : j < k) (hk : k ≤ ss.length) : offs ss j < offs ss k := by
  induction k with
  | zero => omega
  | succ k ih =>
    rw [offs_succ ss k (by omega)]
    by_cases e : j = k
    · subst e; omega
    · have := ih (by omega) (by omega); omega
/-- The labels that stand ahead are those whose places lie below. -/
theorem own_iff (pl : List (ByteArray × Nat)) (ss : List ByteArray) (k : Nat) (hk : k < ss.length) : k < qown pl ss ↔ offs ss k < qob pl ss := by
  have hle := qown_le pl ss
  unfold qob
  split
  · next h =>
    constructor
    · intro h1; exact offs_lt h1 hle
    · intro h1
      by_cases e : k < qown pl ss
      · exact e
      · by_cases e2 : k = qown pl ss
        · rw [e2] at h1; omega
        · have := offs_lt (ss := ss) (show qown pl ss < k by omega) (by omega); omega
  · next h =>
    have e : qown pl ss = ss.length := by omega
    rw [e]
    have := offs_le ss k
    omega
/-- What is kept of the first k labels. -/
theorem keep_len (pl : List (ByteArray × Nat)) (start m : Nat) (ss : List ByteArray) : (qkeep pl start m ss).length ≤ pl.length + m := by
  induction m generalizing pl start ss with
  | zero => simp [qkeep]
  | succ m ih =>
    cases ss with
    | nil => simp [qkeep]
    | cons s t =>
      unfold qkeep
      split
      · omega
      · refine Nat.le_trans (ih _ _ _) ?_
        split <;> simp <;> omega
theorem keep_snoc (pl : List (ByteArray × Nat)) (start : Nat) : ∀ (m : Nat) (ss : List ByteArray) (h : m < ss.length), qkeep pl start (m + 1) ss = (if 16384 ≤ start + offs ss m then qkeep pl start m ss else if (qfind (qkeep pl start m ss) (qkey (ss.drop m))).isSome then qkeep pl start m ss else (qkey (ss.drop m), start + offs ss m) :: qkeep pl start m ss) := by
  intro m
  induction m generalizing pl start with
  | zero =>
    intro ss h
    cases ss with
    | nil => simp at h
    | cons s t => simp [qkeep, offs_zero]
  | succ m ih =>
    intro ss h
    cases ss with
    | nil => simp at h
    | cons s t =>
      have ho : offs (s :: t) (m + 1) = 1 + s.size + offs t m := by
        unfold offs
        simp [nby, nums_len]
        omega
      by_cases h16 : 16384 ≤ start
      · have e1 : ∀ k, qkeep pl start k (s :: t) = pl := by
          intro k
          cases k with
          | zero => rfl
          | succ k => simp [qkeep, h16]
        rw [e1, e1, if_pos (by omega)]
      · rw [qkeep, if_neg h16, ih _ _ t (by simpa using h), qkeep, if_neg h16, ho]
        simp only [List.drop_succ_cons]
        rw [show start + 1 + s.size + offs t m = start + (1 + s.size + offs t m) by omega]
end Go.Proofs.YtkjnbgekaifdfaaGreat
namespace Go.Proofs.YtkjnbgekaifdfaaGreat
open Go.ChangeShapes Go.WideShapes Go.ChangeAt Go.RowKit
set_option linter.unusedVariables false
set_option linter.unusedSimpArgs false
/-- Data: names, numbers, texts, bytes. -/
structure Dat where
  ns : List (List ByteArray)
  us : List Nat
  ts : List ByteArray
  raw : List Int
/-- What data of a type have: names, numbers, texts (-1: one or more), bytes (-1: any), a number's bytes. -/
structure Shp where
  nn : Nat
  nu : Nat
  nt : Int
  nr : Int
  wd : Nat
def shp (t : Nat) : Shp :=
  if t = 1 then ⟨0, 0, 0, 4, 0⟩ else if t = 28 then ⟨0, 0, 0, 16, 0⟩ else if t = 2 ∨ t = 5 ∨ t = 12 then ⟨1, 0, 0, 0, 0⟩ else if t = 6 then ⟨2, 5, 0, 0, 4⟩ else
  if t = 15 then ⟨1, 1, 0, 0, 2⟩ else if t = 33 then ⟨1, 3, 0, 0, 2⟩ else if t = 16 then ⟨0, 0, -1, 0, 0⟩ else if t = 257 then ⟨0, 1, 2, 0, 1⟩ else ⟨0, 0, 0, -1, 0⟩
def mayT (t : Nat) : Bool := decide (t ≠ 0) && (decide (t < 128) || decide (255 < t))
def most (wd : Nat) : Nat := if wd = 1 then 255 else if wd = 2 then 65535 else 4294967295
def alnum (z : Int) : Bool := (decide (97 ≤ z) && decide (z ≤ 122)) || (decide (65 ≤ z) && decide (z ≤ 90)) || (decide (48 ≤ z) && decide (z ≤ 57))
def tagB (s : ByteArray) : Bool := decide (1 ≤ s.size) && decide (s.size ≤ 15) && (nums s).all alnum
def fitsB (t : Nat) (d : Dat) : Bool :=
  decide (d.ns.length = (shp t).nn) && decide (d.us.length = (shp t).nu) && (decide ((shp t).nt < 0) || decide ((d.ts.length : Int) = (shp t).nt)) && (decide (0 ≤ (shp t).nt) || decide (d.ts.length ≠ 0)) &&
  (decide ((shp t).nr < 0) || decide ((d.raw.length : Int) = (shp t).nr)) && d.us.all (fun n => decide (n ≤ most (shp t).wd)) && (decide (t ≠ 16) || d.ts.all (fun s => decide (s.size ≤ 255))) && (decide (t ≠ 257) || tagB (d.ts.getD 0 ⟨#[]⟩))
/-- How many bytes texts have, with their lengths. -/
def tsz (t : Nat) (l : List ByteArray) : Nat := if t = 16 then (nby l).length else (match l with | [] => 0 | s :: r => s.size + 1 + (r.flatMap nums).length)
def sizesF (t : Nat) (d : Dat) : Nat := d.raw.length + d.us.length * (shp t).wd + (d.ns.map nsz).sum + tsz t d.ts
/-- The first error of names. -/
def nsErr : List (List ByteArray) → Int
  | [] => 0
  | n :: r => if nck n = 0 then nsErr r else nck n
def checkF (t : Nat) (d : Dat) : Int := if mayT t then (if fitsB t d then (if nsErr d.ns = 0 then (if 65535 < sizesF t d then 3 else 0) else nsErr d.ns) else 7) else 6
/-- A number in so many bytes. -/
def numB (n wd : Nat) : List Int := if wd = 1 then [(n : Int)] else if wd = 2 then [((n / 256 : Nat) : Int), ((n % 256 : Nat) : Int)] else [((n / 16777216 : Nat) : Int), ((n / 65536 % 256 : Nat) : Int), ((n / 256 % 256 : Nat) : Int), ((n % 256 : Nat) : Int)]
/-- A name's bytes. -/
def nmB (n : List ByteArray) : List Int := nby n ++ [0]
def tsB (t : Nat) (l : List ByteArray) : List Int := if t = 16 then nby l else (match l with | [] => [] | s :: r => ((s.size : Int) :: nums s) ++ r.flatMap nums)
def writeF (t : Nat) (d : Dat) : List Int := if t = 6 then d.ns.flatMap nmB ++ d.us.flatMap (fun n => numB n 4) else d.us.flatMap (fun n => numB n (shp t).wd) ++ d.ns.flatMap nmB ++ tsB t d.ts ++ d.raw
/-- The name at a place of bytes. -/
def gName (b : List Int) (p : Nat) : Option (List ByteArray × Nat) := if p < b.length then (match rgo b p [] with | some (o, q) => if nck o = 0 then some (o, q) else none | none => none) else none
def gNum (b : List Int) (p wd : Nat) : Nat := (val ((b.drop p).take wd)).toNat
def gTexts (b : List Int) (p : Nat) : Option (List ByteArray) :=
  if h : p < b.length then (if p + 1 + (b.getD p 0).toNat ≤ b.length then (gTexts b (p + 1 + (b.getD p 0).toNat)).map (lb ((b.drop (p + 1)).take (b.getD p 0).toNat) :: ·) else none) else some []
termination_by b.length - p
decreasing_by omega
def guessF (t : Nat) (b : List Int) : Option Dat :=
  if t = 6 then (gName b 0).bind fun x => (gName b x.2).bind fun y => if y.2 + 20 ≤ b.length then some ⟨[x.1, y.1], [gNum b y.2 4, gNum b (y.2 + 4) 4, gNum b (y.2 + 8) 4, gNum b (y.2 + 12) 4, gNum b (y.2 + 16) 4], [], []⟩ else none
  else if (shp t).nn = 1 then (if (shp t).nu * (shp t).wd ≤ b.length then (gName b ((shp t).nu * (shp t).wd)).map fun x => ⟨[x.1], (List.range (shp t).nu).map (fun i => gNum b (i * (shp t).wd) (shp t).wd), [], []⟩ else none)
  else if t = 16 then (gTexts b 0).map fun l => ⟨[], [], l, []⟩
  else if t = 257 then (if 2 ≤ b.length ∧ 2 + (b.getD 1 0).toNat ≤ b.length then some ⟨[], [gNum b 0 1], [lb ((b.drop 2).take (b.getD 1 0).toNat), lb (b.drop (2 + (b.getD 1 0).toNat))], []⟩ else none)
  else some ⟨[], [], [], b⟩
/-- What the document reads of bytes. -/
def dreadF (t : Nat) (b : List Int) : Option Dat := (guessF t b).bind fun d => if checkF t d = 0 ∧ writeF t d = b then some d else none
theorem nmB_len (n : List ByteArray) : (nmB n).length = nsz n := by
  have := nby_len n
  simp [nmB]; omega
theorem gName_at (P R : List Int) (n : List ByteArray) (h : nck n = 0) : gName (P ++ (nmB n ++ R)) P.length = some (n, P.length + nsz n) := by
  unfold gName
  have hl := nmB_len n
  have hz : 1 ≤ nsz n := by have := nsz_len n; omega
  have e : P ++ (nmB n ++ R) = P ++ (nby n ++ (0 :: R)) := by simp [nmB]
  rw [if_pos (by simp [hl]; omega), e, rgo_nby n P R [] (nck_small h).2]
  have := nby_len n
  simp [h]
  omega
theorem numB_len (n wd : Nat) (h : wd = 1 ∨ wd = 2 ∨ wd = 4) : (numB n wd).length = wd := by
  rcases h with rfl | rfl | rfl <;> simp [numB]
theorem val_numB (n wd : Nat) (h : (wd = 1 ∧ n ≤ 255) ∨ (wd = 2 ∧ n ≤ 65535) ∨ (wd = 4 ∧ n ≤ 4294967295)) : (val (numB n wd)).toNat = n := by
  rcases h with ⟨rfl, h⟩ | ⟨rfl, h⟩ | ⟨rfl, h⟩
  · simp [numB, val]
  · simp only [numB, val]
    simp
    omega
  · simp only [numB, val]
    simp
    omega
theorem gNum_at (P R : List Int) (n wd p : Nat) (h : (wd = 1 ∧ n ≤ 255) ∨ (wd = 2 ∧ n ≤ 65535) ∨ (wd = 4 ∧ n ≤ 4294967295)) (hp : p = P.length) : gNum (P ++ (numB n wd ++ R)) p wd = n := by
  subst hp
  unfold gNum
  have hl := numB_len n wd (by omega)
  rw [List.drop_left, List.take_append_of_le_length (by omega), List.take_of_length_le (by omega)]
  exact val_numB n wd h
theorem gTexts_at : ∀ (l : List ByteArray) (P : List Int), gTexts (P ++ nby l) P.length = some l
  | [], P => by
    rw [gTexts, dif_neg (by simp [nby])]
  | s :: r, P => by
    have hf : nby (s :: r) = (s.size : Int) :: (nums s ++ nby r) := by simp [nby]
    have hg : (P ++ nby (s :: r)).getD P.length 0 = (s.size : Int) := by rw [hf]; simp [List.getD_eq_getElem?_getD]
    have hl : (P ++ nby (s :: r)).length = P.length + (1 + (s.size + (nby r).length)) := by rw [hf]; simp [nums_len]; omega
    rw [gTexts, dif_pos (by rw [hl]; omega), hg, Int.toNat_natCast, if_pos (by rw [hl]; omega)]
    have ih := gTexts_at r (P ++ ((s.size : Int) :: nums s))
    have e1 : P ++ nby (s :: r) = P ++ ((s.size : Int) :: nums s) ++ nby r := by rw [hf]; simp
    have e2 : (P ++ ((s.size : Int) :: nums s)).length = P.length + 1 + s.size := by simp [nums_len]; omega
    have hd : ((P ++ nby (s :: r)).drop (P.length + 1)).take s.size = nums s := by
      rw [hf, List.drop_append, List.drop_eq_nil_of_le (by omega), Nat.add_sub_cancel_left, List.nil_append]
      show (nums s ++ _).take s.size = nums s
      rw [List.take_append_of_le_length (by rw [nums_len]; exact Nat.le_refl _), List.take_of_length_le (by rw [nums_len]; exact Nat.le_refl _)]
    have hlb : lb (nums s) = s := txt_back s
    rw [e2] at ih
    rw [hd, hlb]
    conv => lhs; arg 2; rw [e1]
    rw [ih]
    rfl
end Go.Proofs.YtkjnbgekaifdfaaGreat
namespace Go.Proofs.YtkjnbgekaifdfaaGreat
open Go.ChangeShapes Go.WideShapes Go.ChangeAt Go.RowKit
set_option linter.unusedVariables false
set_option linter.unusedSimpArgs false
theorem nsErr_all : ∀ l : List (List ByteArray), nsErr l = 0 ↔ ∀ n ∈ l, nck n = 0
  | [] => by simp [nsErr]
  | n :: r => by
    have ih := nsErr_all r
    unfold nsErr
    by_cases h : nck n = 0
    · rw [if_pos h, ih]; simp [h]
    · rw [if_neg h]; simp [h]
theorem check_parts {t : Nat} {d : Dat} (h : checkF t d = 0) : mayT t = true ∧ fitsB t d = true ∧ (∀ n ∈ d.ns, nck n = 0) ∧ sizesF t d ≤ 65535 := by
  unfold checkF at h
  split at h
  · rename_i h1
    split at h
    · rename_i h2
      split at h
      · rename_i h3
        split at h
        · cases h
        · rename_i h4
          exact ⟨h1, h2, (nsErr_all _).1 h3, by omega⟩
      · rename_i h3; exact absurd h h3
    · cases h
  · cases h
/-- The fields of data that fit. -/
structure Fit (t : Nat) (d : Dat) : Prop where
  ns : d.ns.length = (shp t).nn
  us : d.us.length = (shp t).nu
  ts : (shp t).nt < 0 ∨ (d.ts.length : Int) = (shp t).nt
  t1 : 0 ≤ (shp t).nt ∨ d.ts.length ≠ 0
  raw : (shp t).nr < 0 ∨ (d.raw.length : Int) = (shp t).nr
  un : ∀ n ∈ d.us, n ≤ most (shp t).wd
  tx : t = 16 → ∀ s ∈ d.ts, s.size ≤ 255
  tg : t = 257 → tagB (d.ts.getD 0 ⟨#[]⟩) = true
theorem fit_iff (t : Nat) (d : Dat) : fitsB t d = true ↔ Fit t d := by
  unfold fitsB
  simp only [Bool.and_eq_true, Bool.or_eq_true, decide_eq_true_eq, List.all_eq_true]
  constructor
  · rintro ⟨⟨⟨⟨⟨⟨⟨a, b⟩, c⟩, e⟩, f⟩, g⟩, h⟩, i⟩
    exact ⟨a, b, c, e, f, g, fun ht => h.resolve_left (fun hn => hn ht), fun ht => i.resolve_left (fun hn => hn ht)⟩
  · rintro ⟨a, b, c, e, f, g, h, i⟩
    refine ⟨⟨⟨⟨⟨⟨⟨a, b⟩, c⟩, e⟩, f⟩, g⟩, ?_⟩, ?_⟩
    · by_cases ht : t = 16
      · exact .inr (h ht)
      · exact .inl ht
    · by_cases ht : t = 257
      · exact .inr (i ht)
      · exact .inl ht
theorem len0 {α : Type} {l : List α} (h : l.length = 0) : l = [] := List.eq_nil_of_length_eq_zero h
theorem len1 {α : Type} {l : List α} (h : l.length = 1) : ∃ a, l = [a] := List.length_eq_one_iff.1 h
theorem len2 {α : Type} {l : List α} (h : l.length = 2) : ∃ a b, l = [a, b] := by
  match l, h with
  | [a, b], _ => exact ⟨a, b, rfl⟩
theorem len3 {α : Type} {l : List α} (h : l.length = 3) : ∃ a b c, l = [a, b, c] := by
  match l, h with
  | [a, b, c], _ => exact ⟨a, b, c, rfl⟩
theorem len5 {α : Type} {l : List α} (h : l.length = 5) : ∃ a b c e f, l = [a, b, c, e, f] := by
  match l, h with
  | [a, b, c, e, f], _ => exact ⟨a, b, c, e, f, rfl⟩
/-- The eleven ways of a type. -/
theorem shp_cases (t : Nat) : (t = 1 ∧ shp t = ⟨0, 0, 0, 4, 0⟩) ∨ (t = 28 ∧ shp t = ⟨0, 0, 0, 16, 0⟩) ∨ ((t = 2 ∨ t = 5 ∨ t = 12) ∧ shp t = ⟨1, 0, 0, 0, 0⟩) ∨ (t = 6 ∧ shp t = ⟨2, 5, 0, 0, 4⟩) ∨ (t = 15 ∧ shp t = ⟨1, 1, 0, 0, 2⟩) ∨ (t = 33 ∧ shp t = ⟨1, 3, 0, 0, 2⟩) ∨ (t = 16 ∧ shp t = ⟨0, 0, -1, 0, 0⟩) ∨ (t = 257 ∧ shp t = ⟨0, 1, 2, 0, 1⟩) ∨
    ((t ≠ 1 ∧ t ≠ 28 ∧ t ≠ 2 ∧ t ≠ 5 ∧ t ≠ 12 ∧ t ≠ 6 ∧ t ≠ 15 ∧ t ≠ 33 ∧ t ≠ 16 ∧ t ≠ 257) ∧ shp t = ⟨0, 0, 0, -1, 0⟩) := by
  by_cases h1 : t = 1
  · subst h1; left; exact ⟨rfl, rfl⟩
  by_cases h2 : t = 28
  · subst h2; right; left; exact ⟨rfl, rfl⟩
  by_cases h3 : t = 2 ∨ t = 5 ∨ t = 12
  · right; right; left; refine ⟨h3, ?_⟩; rcases h3 with rfl | rfl | rfl <;> rfl
  by_cases h4 : t = 6
  · subst h4; right; right; right; left; exact ⟨rfl, rfl⟩
  by_cases h5 : t = 15
  · subst h5; right; right; right; right; left; exact ⟨rfl, rfl⟩
  by_cases h6 : t = 33
  · subst h6; right; right; right; right; right; left; exact ⟨rfl, rfl⟩
  by_cases h7 : t = 16
  · subst h7; right; right; right; right; right; right; left; exact ⟨rfl, rfl⟩
  by_cases h8 : t = 257
  · subst h8; right; right; right; right; right; right; right; left; exact ⟨rfl, rfl⟩
  · right; right; right; right; right; right; right; right
    refine ⟨⟨h1, h2, fun e => h3 (.inl e), fun e => h3 (.inr (.inl e)), fun e => h3 (.inr (.inr e)), h4, h5, h6, h7, h8⟩, ?_⟩
    unfold shp
    rw [if_neg h1, if_neg h2, if_neg h3, if_neg h4, if_neg h5, if_neg h6, if_neg h7, if_neg h8]
theorem guess_write (t : Nat) (d : Dat) (h : checkF t d = 0) : guessF t (writeF t d) = some d := by
  obtain ⟨h1, h2, h3, h4⟩ := check_parts h
  have hf := (fit_iff t d).1 h2
  obtain ⟨ns, us, ts, raw⟩ := d
  obtain ⟨fns, fus, fts, ft1, fraw, fun_, ftx, ftg⟩ := hf
  simp only at fns fus fts ft1 fraw fun_ ftx ftg h3
  rcases shp_cases t with ⟨rfl, e⟩ | ⟨rfl, e⟩ | ⟨ht, e⟩ | ⟨rfl, e⟩ | ⟨rfl, e⟩ | ⟨rfl, e⟩ | ⟨rfl, e⟩ | ⟨rfl, e⟩ | ⟨ht, e⟩ <;> rw [e] at fns fus fts ft1 fraw fun_ <;> simp only at fns fus fts ft1 fraw fun_
  · obtain rfl := len0 fns
    obtain rfl := len0 fus
    obtain rfl := len0 (l := ts) (by omega)
    simp [guessF, writeF, e, tsB]
  · obtain rfl := len0 fns
    obtain rfl := len0 fus
    obtain rfl := len0 (l := ts) (by omega)
    simp [guessF, writeF, e, tsB]
  · obtain ⟨n, rfl⟩ := len1 fns
    obtain rfl := len0 fus
    obtain rfl := len0 (l := ts) (by omega)
    obtain rfl := len0 (l := raw) (by omega)
    have hg := gName_at [] [] n (h3 n (by simp))
    simp only [List.nil_append, List.length_nil, List.append_nil] at hg
    have h6 : t ≠ 6 := by rcases ht with rfl | rfl | rfl <;> decide
    have hw : writeF t ⟨[n], [], [], []⟩ = nmB n := by
      unfold writeF tsB
      rw [if_neg h6]
      split <;> simp [nby]
    rw [hw]
    unfold guessF
    rw [if_neg h6, e]
    simp [hg]
  · obtain ⟨n, m, rfl⟩ := len2 fns
    obtain ⟨a, b, c, x, y, rfl⟩ := len5 fus
    obtain rfl := len0 (l := ts) (by omega)
    obtain rfl := len0 (l := raw) (by omega)
    have hb : ∀ z ∈ [a, b, c, x, y], z ≤ 4294967295 := fun_
    have hw : writeF 6 ⟨[n, m], [a, b, c, x, y], [], []⟩ = nmB n ++ (nmB m ++ (numB a 4 ++ (numB b 4 ++ (numB c 4 ++ (numB x 4 ++ (numB y 4 ++ [])))))) := by simp [writeF]
    rw [hw]
    have g1 := gName_at [] (nmB m ++ (numB a 4 ++ (numB b 4 ++ (numB c 4 ++ (numB x 4 ++ (numB y 4 ++ [])))))) n (h3 n (by simp))
    have g2 := gName_at (nmB n) (numB a 4 ++ (numB b 4 ++ (numB c 4 ++ (numB x 4 ++ (numB y 4 ++ []))))) m (h3 m (by simp))
    have l1 := nmB_len n
    have l2 := nmB_len m
    have na := numB_len a 4 (by simp)
    have nb := numB_len b 4 (by simp)
    have nc := numB_len c 4 (by simp)
    have nx := numB_len x 4 (by simp)
    have ny := numB_len y 4 (by simp)
    have k1 := gNum_at (nmB n ++ nmB m) (numB b 4 ++ (numB c 4 ++ (numB x 4 ++ (numB y 4 ++ [])))) a 4 (nsz n + nsz m) (.inr (.inr ⟨rfl, hb a (by simp)⟩)) (by simp [l1, l2])
    have k2 := gNum_at (nmB n ++ nmB m ++ numB a 4) (numB c 4 ++ (numB x 4 ++ (numB y 4 ++ []))) b 4 (nsz n + nsz m + 4) (.inr (.inr ⟨rfl, hb b (by simp)⟩)) (by simp only [List.length_append, l1, l2, na])
    have k3 := gNum_at (nmB n ++ nmB m ++ numB a 4 ++ numB b 4) (numB x 4 ++ (numB y 4 ++ [])) c 4 (nsz n + nsz m + 8) (.inr (.inr ⟨rfl, hb c (by simp)⟩)) (by simp only [List.length_append, l1, l2, na, nb])
    have k4 := gNum_at (nmB n ++ nmB m ++ numB a 4 ++ numB b 4 ++ numB c 4) (numB y 4 ++ []) x 4 (nsz n + nsz m + 12) (.inr (.inr ⟨rfl, hb x (by simp)⟩)) (by simp only [List.length_append, l1, l2, na, nb, nc])
    have k5 := gNum_at (nmB n ++ nmB m ++ numB a 4 ++ numB b 4 ++ numB c 4 ++ numB x 4) [] y 4 (nsz n + nsz m + 16) (.inr (.inr ⟨rfl, hb y (by simp)⟩)) (by simp only [List.length_append, l1, l2, na, nb, nc, nx])
    simp only [List.append_assoc] at k1 k2 k3 k4 k5
    simp only [List.nil_append, List.length_nil, Nat.zero_add] at g1
    rw [l1] at g2
    unfold guessF
    rw [if_pos rfl, g1]
    simp only [Option.bind_some]
    rw [g2]
    simp only [Option.bind_some]
    rw [if_pos (by simp [l1, l2, na, nb, nc, nx, ny]; omega), k1, k2, k3, k4, k5]
  · obtain ⟨n, rfl⟩ := len1 fns
    obtain ⟨a, rfl⟩ := len1 fus
    obtain rfl := len0 (l := ts) (by omega)
    obtain rfl := len0 (l := raw) (by omega)
    have hb : ∀ z ∈ [a], z ≤ 65535 := fun_
    have hw : writeF 15 ⟨[n], [a], [], []⟩ = numB a 2 ++ (nmB n ++ []) := by simp [writeF, e, tsB]
    rw [hw]
    have na := numB_len a 2 (by simp)
    have g1 := gName_at (numB a 2) [] n (h3 n (by simp))
    have k1 := gNum_at [] (nmB n ++ []) a 2 0 (.inr (.inl ⟨rfl, hb a (by simp)⟩)) rfl
    rw [na] at g1
    simp only [List.nil_append] at k1
    unfold guessF
    rw [if_neg (by decide), e]
    simp only [if_true]
    rw [if_pos (by simp [na]), show 1 * 2 = 2 from rfl, g1]
    simp [List.range_succ]
    simpa using k1
  · obtain ⟨n, rfl⟩ := len1 fns
    obtain ⟨a, b, c, rfl⟩ := len3 fus
    obtain rfl := len0 (l := ts) (by omega)
    obtain rfl := len0 (l := raw) (by omega)
    have hb : ∀ z ∈ [a, b, c], z ≤ 65535 := fun_
    have hw : writeF 33 ⟨[n], [a, b, c], [], []⟩ = numB a 2 ++ (numB b 2 ++ (numB c 2 ++ (nmB n ++ []))) := by simp [writeF, e, tsB]
    rw [hw]
    have na := numB_len a 2 (by simp)
    have nb := numB_len b 2 (by simp)
    have nc := numB_len c 2 (by simp)
    have g1 := gName_at (numB a 2 ++ numB b 2 ++ numB c 2) [] n (h3 n (by simp))
    have k1 := gNum_at [] (numB b 2 ++ (numB c 2 ++ (nmB n ++ []))) a 2 0 (.inr (.inl ⟨rfl, hb a (by simp)⟩)) rfl
    have k2 := gNum_at (numB a 2) (numB c 2 ++ (nmB n ++ [])) b 2 2 (.inr (.inl ⟨rfl, hb b (by simp)⟩)) (by rw [na])
    have k3 := gNum_at (numB a 2 ++ numB b 2) (nmB n ++ []) c 2 4 (.inr (.inl ⟨rfl, hb c (by simp)⟩)) (by simp [na, nb])
    simp only [List.append_assoc, List.length_append, na, nb, nc, List.nil_append] at g1 k1 k2 k3
    unfold guessF
    rw [if_neg (by decide), e]
    simp only [if_true]
    rw [if_pos (by simp [na, nb, nc]; omega), show 3 * 2 = 2 + (2 + 2) from rfl, g1]
    simp only [Option.map_some]
    rw [show List.range 3 = [0, 1, 2] from rfl]
    simp only [List.map_cons, List.map_nil, Nat.zero_mul, Nat.one_mul]
    rw [k1, k2, show 2 * 2 = 4 from rfl, k3]
  · obtain rfl := len0 fns
    obtain rfl := len0 fus
    obtain rfl := len0 (l := raw) (by omega)
    have hw : writeF 16 ⟨[], [], ts, []⟩ = nby ts := by simp [writeF, tsB]
    have g1 := gTexts_at ts []
    simp only [List.nil_append, List.length_nil] at g1
    rw [hw]
    unfold guessF
    rw [if_neg (by decide), e]
    simp [g1]
  · obtain rfl := len0 fns
    obtain ⟨a, rfl⟩ := len1 fus
    obtain ⟨s, u, rfl⟩ := len2 (l := ts) (by omega)
    obtain rfl := len0 (l := raw) (by omega)
    have hb : ∀ z ∈ [a], z ≤ 255 := fun_
    have hw : writeF 257 ⟨[], [a], [s, u], []⟩ = (a : Int) :: (s.size : Int) :: (nums s ++ nums u) := by simp [writeF, e, tsB, numB]
    rw [hw]
    have hl : ((a : Int) :: (s.size : Int) :: (nums s ++ nums u)).length = 2 + (s.size + u.size) := by simp [nums_len]; omega
    have hd : ((a : Int) :: (s.size : Int) :: (nums s ++ nums u)).getD 1 0 = (s.size : Int) := rfl
    unfold guessF
    rw [if_neg (by decide), e, if_neg (by decide), if_neg (by decide), if_pos rfl, hd, Int.toNat_natCast, hl, if_pos ⟨by omega, by omega⟩]
    have d1 : (((a : Int) :: (s.size : Int) :: (nums s ++ nums u)).drop 2).take s.size = nums s := by
      show (nums s ++ nums u).take s.size = nums s
      rw [List.take_append_of_le_length (by rw [nums_len]; exact Nat.le_refl _), List.take_of_length_le (by rw [nums_len]; exact Nat.le_refl _)]
    have d2 : ((a : Int) :: (s.size : Int) :: (nums s ++ nums u)).drop (2 + s.size) = nums u := by
      rw [Nat.add_comm]
      show (nums s ++ nums u).drop s.size = nums u
      rw [List.drop_append_of_le_length (by rw [nums_len]; exact Nat.le_refl _), List.drop_eq_nil_of_le (by rw [nums_len]; exact Nat.le_refl _), List.nil_append]
    have d3 : gNum ((a : Int) :: (s.size : Int) :: (nums s ++ nums u)) 0 1 = a := by simp [gNum, val]
    rw [d1, d2, d3, show lb (nums s) = s from txt_back s, show lb (nums u) = u from txt_back u]
  · obtain rfl := len0 fns
    obtain rfl := len0 fus
    obtain rfl := len0 (l := ts) (by omega)
    have hw : writeF t ⟨[], [], [], raw⟩ = raw := by
      unfold writeF tsB
      rw [if_neg ht.2.2.2.2.2.1, if_neg ht.2.2.2.2.2.2.2.2.1]
      simp
    rw [hw]
    unfold guessF
    rw [if_neg ht.2.2.2.2.2.1, e, if_neg (by decide), if_neg ht.2.2.2.2.2.2.2.2.1, if_neg ht.2.2.2.2.2.2.2.2.2]
theorem read_write (t : Nat) (d : Dat) (h : checkF t d = 0) : dreadF t (writeF t d) = some d := by
  unfold dreadF
  rw [guess_write t d h]
  simp [h]
end Go.Proofs.YtkjnbgekaifdfaaGreat
namespace Go.Proofs.YtkjnbgekaifdfaaGreat
open Go.ChangeShapes Go.WideShapes Go.ChangeAt Go.RowKit
set_option linter.unusedVariables false
set_option linter.unusedSimpArgs false
/-- A new list of bytes out of 'append([]byte{}, b...)'. -/
theorem empty_own (w : World) : Own w.heap.size (w.alloc (.cells #[] 5)) (.slice (some ⟨w.heap.size, 0, none⟩) 0 0) 0 [] :=
  .inr ⟨w.heap.size, rfl, Nat.le_refl _, ⟨by rw [heap_alloc_new]; rfl, by simp⟩, Nat.le_refl _, Nat.zero_le _⟩
set_option maxRecDepth 100000 in
set_option maxHeartbeats 800000 in
theorem clone_any (x : Addr) (cap : Nat) (zs : List Int) (w : World) (hr : Rd w (some x) zs) (hm : zs.length ≤ 140737488355328) :
    Calls Tryz.prog 87 #[.slice (some x) zs.length cap] w fun e w' => ∃ v ys, e = .returned v ∧ Own w.heap.size w' v zs.length ys ∧ ys.take zs.length = zs ∧ Below w.heap.size w w' := by
  have HR : Hid (Rd w (some x) zs) := hr
  clear hr
  obtain ⟨len, hlen⟩ : ∃ len, len = zs.length := ⟨_, rfl⟩
  rw [← hlen] at hm ⊢
  have HL : Hid (len = zs.length) := hlen
  clear hlen
  have hb1 : Below w.heap.size w (w.alloc (.cells #[] 5)) := (Below.refl _ _).alloc (Nat.le_refl _) _
  have hnil : ∀ W : World, (binOp .eql 29 (.slice (some x) len cap) (.slice none 0 0)).run Tryz.prog W = .ok (.bool false) W := fun W => Lib.run_eql_slice_nil W _ _ _ _ _ _ _ Tryz.underlying29
  go_enter Tryz.func87, Tryz.ntmps87
  go_wp2_with (at_builtin; refine wpList_append_blk _ rfl _ _ rfl w.heap.size _ 0 [] rfl (empty_own w) (some x) len cap zs rfl (HR.out.below hb1) HL.out.symm (by simp) (by omega) (by simp) ?_; intro v' w' zs' hO hT hG)
  go_ret
  refine ⟨v', zs', rfl, ?_, ?_, ?_⟩
  · have h := hO.out
    rw [Nat.zero_add] at h
    exact h
  · have h := hT.out
    rw [Nat.zero_add] at h
    simpa using h
  · refine hb1.grown hG (by simp) ?_
    intro k hk
    have e : w.heap.size = k := Option.some.inj hk
    omega
theorem clone_none (w : World) :
    Calls Tryz.prog 87 #[.slice none 0 0] w fun e w' => e = .returned (.slice none 0 0) ∧ w' = w := by
  have hnil : ∀ W : World, (binOp .eql 29 (.slice none 0 0) (.slice none 0 0)).run Tryz.prog W = .ok (.bool true) W := fun W => Lib.run_eql_slice_nil W _ _ _ _ _ _ _ Tryz.underlying29
  go_enter Tryz.func87, Tryz.ntmps87
  go_wp2
  go_ret
  exact ⟨rfl, rfl⟩
end Go.Proofs.YtkjnbgekaifdfaaGreat
namespace Go.Proofs.YtkjnbgekaifdfaaGreat
open Go.ChangeShapes Go.WideShapes Go.ChangeAt Go.RowKit Go.Deep
set_option linter.unusedVariables false
set_option linter.unusedSimpArgs false
/-- A slice's value: address, length, room. -/
structure Sl where
  a : Option Addr
  n : Nat
  c : Nat
/-- Numbers of four bytes. -/
def uv (us : List Nat) : List Value := us.map fun (n : Nat) => Value.int .u32 (n : Int)
theorem uv_len (us : List Nat) : (uv us).length = us.length := by simp [uv]
/-- A list of texts that can be read. -/
structure TRd (w : World) (s : Sl) (ss : List ByteArray) : Prop where
  rd : RdT w s.a ss
  len : ss.length = s.n
  cap : s.n ≤ s.c ∧ s.c ≤ 9223372036854775807
  nil : s.a = none → s.c = 0
  z63 : ∀ x ∈ ss, x.size ≤ 9223372036854775807
theorem TRd.below {w w' : World} {s : Sl} {ss : List ByteArray} (h : TRd w s ss) (hb : Below w.heap.size w w') : TRd w' s ss := ⟨h.rd.below hb, h.len, h.cap, h.nil, h.z63⟩
/-- A list of names that can be read: at each place a list of texts. -/
structure NRd (w : World) (s : Sl) (nss : List (List ByteArray)) : Prop where
  rd : nss = [] ∨ ∃ b o, s.a = some ⟨b, o, none⟩ ∧ b < w.heap.size ∧ ∀ i (h : i < nss.length), ∃ x : Sl, w.cell? ⟨b, o + i, none⟩ = some (.slice x.a x.n x.c) ∧ TRd w x nss[i]
  len : nss.length = s.n
  cap : s.n ≤ s.c ∧ s.c ≤ 9223372036854775807
  nil : s.a = none → s.c = 0
theorem NRd.below {w w' : World} {s : Sl} {nss : List (List ByteArray)} (h : NRd w s nss) (hb : Below w.heap.size w w') : NRd w' s nss := by
  refine ⟨?_, h.len, h.cap, h.nil⟩
  rcases h.rd with h1 | ⟨b, o, h1, h2, h3⟩
  · exact .inl h1
  · refine .inr ⟨b, o, h1, Nat.lt_of_lt_of_le h2 hb.size, fun i hi => ?_⟩
    obtain ⟨x, h4, h5⟩ := h3 i hi
    exact ⟨x, (hb.cell (p := ⟨b, o + i, none⟩) h2).trans h4, h5.below hb⟩
theorem NRd.at {w : World} {s : Sl} {nss : List (List ByteArray)} (h : NRd w s nss) (i : Nat) (hi : i < nss.length) : ∃ b o, s.a = some ⟨b, o, none⟩ ∧ b < w.heap.size ∧ ∃ x : Sl, w.cell? ⟨b, o + i, none⟩ = some (.slice x.a x.n x.c) ∧ TRd w x nss[i] := by
  rcases h.rd with h1 | ⟨b, o, h1, h2, h3⟩
  · subst h1; simp at hi
  · exact ⟨b, o, h1, h2, h3 i hi⟩
/-- A list of numbers that can be read. -/
structure URd (w : World) (s : Sl) (us : List Nat) : Prop where
  rd : RdV w s.a (uv us)
  len : us.length = s.n
  cap : s.n ≤ s.c ∧ s.c ≤ 9223372036854775807
  nil : s.a = none → s.c = 0
  bd : ∀ x ∈ us, x ≤ 4294967295
theorem URd.below {w w' : World} {s : Sl} {us : List Nat} (h : URd w s us) (hb : Below w.heap.size w w') : URd w' s us := ⟨h.rd.below hb, h.len, h.cap, h.nil, h.bd⟩
theorem URd.at {w : World} {s : Sl} {us : List Nat} (h : URd w s us) (i : Nat) (hi : i < us.length) : ∃ b o, s.a = some ⟨b, o, none⟩ ∧ b < w.heap.size ∧ w.cell? ⟨b, o + i, none⟩ = some (.int .u32 (us[i] : Int)) := by
  rcases h.rd with h1 | ⟨b, o, h1, h2, h3⟩
  · have := congrArg List.length h1
    rw [uv_len] at this
    simp at this
    subst this
    simp at hi
  · refine ⟨b, o, h1, h2, ?_⟩
    rw [h3 i (by rw [uv_len]; exact hi)]
    simp [uv]
/-- A list of bytes that can be read. -/
structure BRd (w : World) (s : Sl) (zs : List Int) : Prop where
  rd : Rd w s.a zs
  len : zs.length = s.n
  cap : s.n ≤ s.c ∧ s.c ≤ 9223372036854775807
  nil : s.a = none → s.c = 0
theorem BRd.below {w w' : World} {s : Sl} {zs : List Int} (h : BRd w s zs) (hb : Below w.heap.size w w') : BRd w' s zs := ⟨h.rd.below hb, h.len, h.cap, h.nil⟩
/-- Where data lie. -/
structure DA where
  p1 : Sl
  p2 : Sl
  p3 : Sl
  p4 : Sl
/-- Data that can be read. -/
structure DRd (w : World) (x : DA) (d : Dat) : Prop where
  h1 : NRd w x.p1 d.ns
  h2 : URd w x.p2 d.us
  h3 : TRd w x.p3 d.ts
  h4 : BRd w x.p4 d.raw
theorem DRd.below {w w' : World} {x : DA} {d : Dat} (h : DRd w x d) (hb : Below w.heap.size w w') : DRd w' x d := ⟨h.h1.below hb, h.h2.below hb, h.h3.below hb, h.h4.below hb⟩
variable {H : Type} {enc : TypeId × Value → H} {W : World}
theorem open_texts {t : TypeId} (ht : Tryz.prog.underlying t = some (.slice 9)) {a : Option Addr} {len cap fuel : Nat} {x : DataW H × List MemPlace} (hf : DataW.trod enc Tryz.prog W 0 (fun _ => true) true fuel t [Value.slice a len cap] = some x) : ∃ ss, TRd W ⟨a, len, cap⟩ ss := by
  rcases open_strs ht Tryz.underlying9 (by kernel_rfl) hf with ⟨hcs, hx⟩ | ⟨x, l, c, m, S, hcs, _, hl, hm, hmm, hx, hcell⟩
  · simp at hcs
    obtain ⟨rfl, rfl, rfl⟩ := hcs
    exact ⟨[], .inl rfl, rfl, ⟨Nat.le_refl _, Nat.zero_le _⟩, fun _ => rfl, by simp⟩
  · simp at hcs
    obtain ⟨rfl, rfl, rfl⟩ := hcs
    have hmc : m = cap := by simpa using hmm
    refine ⟨(List.range len).map S, ?_, by simp, ⟨hl, by simp only [maxLen] at hm; exact hm⟩, by simp, ?_⟩
    · by_cases h0 : len = 0
      · left; rw [h0]; rfl
      · right
        obtain ⟨b, off, spot⟩ := x
        have hc0 := (hcell 0 (by omega)).1
        have hspot : spot = none := by simpa [Addr.add] using World.cell?_spot hc0
        subst hspot
        have hlt : b < W.heap.size := by
          have := World.block_lt_of_cell? W _ hc0
          simpa [Addr.add] using this
        refine ⟨b, off, rfl, hlt, fun i hi => ?_⟩
        have hi' : i < len := by simpa [tv] using hi
        have := (hcell i (by omega)).1
        rw [Addr.add_lit] at this
        rw [this]
        simp [tv]
    · intro s hs
      simp only [List.mem_map, List.mem_range] at hs
      obtain ⟨i, hi, rfl⟩ := hs
      have := (hcell i (by omega)).2
      simp only [maxLen] at this
      exact this
theorem slice_of {t e : TypeId} (ht : Tryz.prog.underlying t = some (.slice e)) {v : Value} {fuel : Nat} {x : DataW H × List MemPlace} (hf : DataW.trod enc Tryz.prog W 0 (fun _ => true) true fuel t [v] = some x) : ∃ a n c, v = .slice a n c := by
  rcases DataW.trod_slice ht hf with ⟨hcs, _⟩ | ⟨a, len, cap, elems, rest, n, _, hcs, _⟩
  · simp at hcs; exact ⟨_, _, _, hcs⟩
  · simp at hcs; exact ⟨_, _, _, hcs⟩
theorem open_bytesD {a : Option Addr} {len cap fuel : Nat} {x : DataW H × List MemPlace} (hf : DataW.trod enc Tryz.prog W 0 (fun _ => true) true fuel 29 [Value.slice a len cap] = some x) : ∃ zs, BRd W ⟨a, len, cap⟩ zs := by
  rcases open_ints Tryz.underlying29 Tryz.underlying5 (by kernel_rfl) hf with ⟨hcs, _⟩ | ⟨x, l, c, zs, hcs, _, hl, hm, hz, hx, hcell, hwz⟩
  · simp at hcs
    obtain ⟨rfl, rfl, rfl⟩ := hcs
    exact ⟨[], ⟨.inl rfl, by simp⟩, rfl, ⟨Nat.le_refl _, Nat.zero_le _⟩, fun _ => rfl⟩
  · simp at hcs
    obtain ⟨rfl, rfl, rfl⟩ := hcs
    have hz' : zs.length = cap := by simpa using hz
    refine ⟨zs.take len, ⟨?_, ?_⟩, by simp; omega, ⟨hl, by simp only [maxLen] at hm; exact hm⟩, by simp⟩
    · by_cases h0 : cap = 0
      · left
        have : zs = [] := List.eq_nil_of_length_eq_zero (by omega)
        rw [this]; simp
      · right
        obtain ⟨b, off, spot⟩ := x
        have hspot : spot = none := by simpa [Addr.add] using World.cell?_spot (hcell 0 (by omega))
        subst hspot
        have hlt : b < W.heap.size := by
          have := World.block_lt_of_cell? W _ (hcell 0 (by omega))
          simpa [Addr.add] using this
        refine ⟨b, off, rfl, hlt, fun i hi => ?_⟩
        have hi' : i < len := by simp at hi; omega
        have := hcell i (by simp at hi; omega)
        rw [Addr.add_lit] at this
        rw [this]
        simp [List.getD_eq_getElem?_getD, hi']
    · intro z hz2
      have := hwz z (List.mem_of_mem_take hz2)
      simp [Lit.wf, IntKind.min, IntKind.max, IntKind.bits, IntKind.signed] at this
      omega
theorem open_numsD {a : Option Addr} {len cap fuel : Nat} {x : DataW H × List MemPlace} (hf : DataW.trod enc Tryz.prog W 0 (fun _ => true) true fuel 58 [Value.slice a len cap] = some x) : ∃ us, URd W ⟨a, len, cap⟩ us := by
  rcases open_ints Tryz.underlying58 Tryz.underlying56 (by kernel_rfl) hf with ⟨hcs, _⟩ | ⟨x, l, c, zs, hcs, _, hl, hm, hz, hx, hcell, hwz⟩
  · simp at hcs
    obtain ⟨rfl, rfl, rfl⟩ := hcs
    exact ⟨[], .inl rfl, rfl, ⟨Nat.le_refl _, Nat.zero_le _⟩, fun _ => rfl, by simp⟩
  · simp at hcs
    obtain ⟨rfl, rfl, rfl⟩ := hcs
    have hz' : zs.length = cap := by simpa using hz
    have hbd : ∀ z ∈ zs, 0 ≤ z ∧ z ≤ 4294967295 := by
      intro z hz2
      have := hwz z hz2
      simp [Lit.wf, IntKind.min, IntKind.max, IntKind.bits, IntKind.signed] at this
      omega
    refine ⟨(zs.take len).map Int.toNat, ?_, by simp; omega, ⟨hl, by simp only [maxLen] at hm; exact hm⟩, by simp, ?_⟩
    · by_cases h0 : len = 0
      · left; rw [h0]; rfl
      · right
        obtain ⟨b, off, spot⟩ := x
        have hspot : spot = none := by simpa [Addr.add] using World.cell?_spot (hcell 0 (by omega))
        subst hspot
        have hlt : b < W.heap.size := by
          have := World.block_lt_of_cell? W _ (hcell 0 (by omega))
          simpa [Addr.add] using this
        refine ⟨b, off, rfl, hlt, fun i hi => ?_⟩
        have hi' : i < len := by simp [uv] at hi; omega
        have hiz : i < zs.length := by omega
        have := hcell i (by omega)
        rw [Addr.add_lit] at this
        rw [this]
        have hb := hbd zs[i] (List.getElem_mem hiz)
        simp [uv, List.getD_eq_getElem?_getD, hiz]
        omega
    · intro y hy
      obtain ⟨z, hz2, rfl⟩ := List.mem_map.1 hy
      have := hbd z (List.mem_of_mem_take hz2)
      omega
theorem list_of {α : Type} (n : Nat) (p : Nat → α → Prop) (h : ∀ i, i < n → ∃ x, p i x) : ∃ l : List α, l.length = n ∧ ∀ i (hi : i < l.length), p i l[i] := by
  induction n with
  | zero => exact ⟨[], rfl, fun i hi => absurd hi (Nat.not_lt_zero _)⟩
  | succ n ih =>
    obtain ⟨l, hl, hp⟩ := ih fun i hi => h i (by omega)
    obtain ⟨x, hx⟩ := h n (by omega)
    refine ⟨l ++ [x], by simp [hl], fun i hi => ?_⟩
    by_cases hi' : i < l.length
    · rw [List.getElem_append_left hi']; exact hp i hi'
    · have : i = n := by simp at hi; omega
      subst this
      rw [List.getElem_append_right (by omega)]
      simp [hl, hx]
theorem open_namesD {a : Option Addr} {len cap fuel : Nat} {x : DataW H × List MemPlace} (hf : DataW.trod enc Tryz.prog W 0 (fun _ => true) true fuel 57 [Value.slice a len cap] = some x) : ∃ nss, NRd W ⟨a, len, cap⟩ nss := by
  rcases open_slice1 Tryz.underlying57 (by kernel_rfl) hf with ⟨hcs, _⟩ | ⟨x, l, c, m, n, V, D, Pl, hcs, _, hl, hm, hmm, hx, hcell⟩
  · simp at hcs
    obtain ⟨rfl, rfl, rfl⟩ := hcs
    exact ⟨[], .inl rfl, rfl, ⟨Nat.le_refl _, Nat.zero_le _⟩, fun _ => rfl⟩
  · simp at hcs
    obtain ⟨rfl, rfl, rfl⟩ := hcs
    have hmc : m = cap := by simpa using hmm
    have hex : ∀ i, i < len → ∃ ss, ∃ s : Sl, V i = .slice s.a s.n s.c ∧ TRd W s ss := by
      intro i hi
      obtain ⟨a', n', c', e⟩ := slice_of (t := 51) (e := 9) Tryz.underlying51 (hcell i (by omega)).2
      have h2 := (hcell i (by omega)).2
      rw [e] at h2
      obtain ⟨ss, hss⟩ := open_texts Tryz.underlying51 h2
      exact ⟨ss, ⟨a', n', c'⟩, e, hss⟩
    obtain ⟨nss, hlen, hnss⟩ := list_of len _ hex
    refine ⟨nss, ?_, hlen, ⟨hl, by simp only [maxLen] at hm; exact hm⟩, by simp⟩
    by_cases h0 : len = 0
    · left; exact List.eq_nil_of_length_eq_zero (by omega)
    · right
      obtain ⟨b, off, spot⟩ := x
      have hc0 := (hcell 0 (by omega)).1
      have hspot : spot = none := by simpa [Addr.add] using World.cell?_spot hc0
      subst hspot
      have hlt : b < W.heap.size := by
        have := World.block_lt_of_cell? W _ hc0
        simpa [Addr.add] using this
      refine ⟨b, off, rfl, hlt, fun i hi => ?_⟩
      obtain ⟨s, e, hs⟩ := hnss i hi
      have := (hcell i (by omega)).1
      rw [Addr.add_lit, e] at this
      exact ⟨s, this, hs⟩
end Go.Proofs.YtkjnbgekaifdfaaGreat
namespace Go.Proofs.YtkjnbgekaifdfaaGreat
open Go.ChangeShapes Go.WideShapes Go.ChangeAt Go.RowKit
set_option linter.unusedVariables false
set_option linter.unusedSimpArgs false
/-- Data in a block of their own. -/
def DBox (w : World) (b : Nat) (x : DA) : Prop :=
  w.cell? ⟨b, 0, none⟩ = some (.slice x.p1.a x.p1.n x.p1.c) ∧ w.cell? ⟨b, 1, none⟩ = some (.slice x.p2.a x.p2.n x.p2.c) ∧ w.cell? ⟨b, 2, none⟩ = some (.slice x.p3.a x.p3.n x.p3.c) ∧ w.cell? ⟨b, 3, none⟩ = some (.slice x.p4.a x.p4.n x.p4.c) ∧ b < w.heap.size
theorem DBox.new (w : World) (x : DA) : DBox (w.alloc (.cells #[.slice x.p1.a x.p1.n x.p1.c, .slice x.p2.a x.p2.n x.p2.c, .slice x.p3.a x.p3.n x.p3.c, .slice x.p4.a x.p4.n x.p4.c] 60)) w.heap.size x := by
  refine ⟨?_, ?_, ?_, ?_, by simp⟩ <;> (unfold World.cell?; rw [heap_alloc_new]; rfl)
theorem DBox.below {w w' : World} {b : Nat} {x : DA} (h : DBox w b x) (hb : Below w.heap.size w w') : DBox w' b x :=
  ⟨(hb.cell (p := ⟨b, 0, none⟩) h.2.2.2.2).trans h.1, (hb.cell (p := ⟨b, 1, none⟩) h.2.2.2.2).trans h.2.1, (hb.cell (p := ⟨b, 2, none⟩) h.2.2.2.2).trans h.2.2.1, (hb.cell (p := ⟨b, 3, none⟩) h.2.2.2.2).trans h.2.2.2.1, Nat.lt_of_lt_of_le h.2.2.2.2 hb.size⟩
/-- Data that are gone through. -/
structure Small (d : Dat) : Prop where
  n : d.ns.length ≤ 6
  u : d.us.length ≤ 12
  t : d.ts.length ≤ 300
  r : d.raw.length ≤ 65540
  nl : ∀ x ∈ d.ns, x.length ≤ 130
  tl : ∀ x ∈ d.ts, x.size ≤ 300
/-- Large, or not. -/
def LgPost (d : Dat) (w : World) (e : Ending) (w' : World) : Prop := ∃ b, e = .returned (.bool b) ∧ (b = false → Small d) ∧ Below w.heap.size w w'
theorem lg_yes {d : Dat} {w w' : World} {e : Ending} (he : e = .returned (.bool true)) (hb : Below w.heap.size w w') : LgPost d w e w' := ⟨true, he, fun h => (by cases h), hb⟩
theorem lg_no {d : Dat} {w w' : World} {e : Ending} (he : e = .returned (.bool false)) (hs : Small d) (hb : Below w.heap.size w w') : LgPost d w e w' := ⟨false, he, fun _ => hs, hb⟩
set_option maxRecDepth 100000 in
set_option maxHeartbeats 2000000 in
theorem large_any (x : DA) (d : Dat) (w : World) (h : DRd w x d) :
    Calls Tryz.prog 29 #[.agg #[.slice x.p1.a x.p1.n x.p1.c, .slice x.p2.a x.p2.n x.p2.c, .slice x.p3.a x.p3.n x.p3.c, .slice x.p4.a x.p4.n x.p4.c]] w (LgPost d w) := by
  have HB : Hid (Below w.heap.size w (w.alloc (.cells #[.slice x.p1.a x.p1.n x.p1.c, .slice x.p2.a x.p2.n x.p2.c, .slice x.p3.a x.p3.n x.p3.c, .slice x.p4.a x.p4.n x.p4.c] 60))) := (Below.refl _ _).alloc (Nat.le_refl _) _
  have HX : Hid (DBox (w.alloc (.cells #[.slice x.p1.a x.p1.n x.p1.c, .slice x.p2.a x.p2.n x.p2.c, .slice x.p3.a x.p3.n x.p3.c, .slice x.p4.a x.p4.n x.p4.c] 60)) w.heap.size x) := DBox.new w x
  have HD : Hid (DRd (w.alloc (.cells #[.slice x.p1.a x.p1.n x.p1.c, .slice x.p2.a x.p2.n x.p2.c, .slice x.p3.a x.p3.n x.p3.c, .slice x.p4.a x.p4.n x.p4.c] 60)) x d) := h.below HB.out
  clear h
  obtain ⟨⟨a1, n1, k1⟩, ⟨a2, n2, k2⟩, ⟨a3, n3, k3⟩, ⟨a4, n4, k4⟩⟩ := x
  simp only at HB HX HD ⊢
  go_enter Tryz.func29, Tryz.ntmps29
  go_upto_region 1 with fail
  generalize (w.alloc (.cells #[.slice a1 n1 k1, .slice a2 n2 k2, .slice a3 n3 k3, .slice a4 n4 k4] 60)) = W1 at *
  have c0 := HX.out.1
  have c1 := HX.out.2.1
  have c2 := HX.out.2.2.1
  have c3 := HX.out.2.2.2.1
  simp only at c0 c1 c2 c3
  by_cases h1 : (6 : Int) < (n1 : Int)
  · go_wp2_with fail
    go_ret
    exact lg_yes rfl HB.out
  by_cases h2 : (12 : Int) < (n2 : Int)
  · go_wp2_with fail
    go_ret
    exact lg_yes rfl HB.out
  by_cases h3 : (300 : Int) < (n3 : Int)
  · go_wp2_with fail
    go_ret
    exact lg_yes rfl HB.out
  by_cases h4 : (2000 : Int) < (n4 : Int) ∧ (n4 : Int) ≤ 65535
  · obtain ⟨h4a, h4b⟩ := h4
    go_wp2_with fail
    go_ret
    exact lg_yes rfl HB.out
  by_cases h5 : (65540 : Int) < (n4 : Int)
  · have h4a : (2000 : Int) < (n4 : Int) := by omega
    have h4b : ¬ (n4 : Int) ≤ 65535 := by omega
    go_wp2_with fail
    go_ret
    exact lg_yes rfl HB.out
  have hor : ¬ (2000 : Int) < (n4 : Int) ∨ ((2000 : Int) < (n4 : Int) ∧ ¬ (n4 : Int) ≤ 65535) := by omega
  clear h4
  go_cut [38] from 5 to 38 (fun s38 wx => wx = W1 ∧ s38 = .bool false)
  case first =>
    rcases hor with h | ⟨h, h'⟩
    all_goals
      go_wp2_with fail
      go_meet
      exact ⟨rfl, rfl⟩
  case rest =>
    obtain ⟨hwc, rfl⟩ := hcut
    subst hwc
    clear hor
    go_wp2_with fail
    go_loopw [3] (fun v wr => wr = wc ∧ ∃ k : Nat, k ≤ n1 ∧ v = .int .i64 (k : Int) ∧ Hid (∀ y ∈ d.ns.take k, y.length ≤ 130)) (fun v _ => n1 - (intOf v).toNat)
    case atStart => exact ⟨rfl, 0, Nat.zero_le _, rfl, by intro y hy; simp at hy⟩
    case round =>
      obtain ⟨hwr, k, hk, rfl, HF⟩ := hrel
      subst hwr
      by_cases hlt : k < n1
      · have hlt' : (k : Int) < (n1 : Int) := by omega
        have hki : k < d.ns.length := by rw [HD.out.h1.len]; exact hlt
        obtain ⟨b, o, ha, hbl, y, hy, hyr⟩ := HD.out.h1.at k hki
        simp only at ha
        subst ha
        have hyl := hyr.len
        by_cases hy2 : (130 : Int) < (y.n : Int)
        · clear hyr
          go_wp2_with fail
          go_ret
          exact lg_yes rfl HB.out
        · have HF2 : Hid (∀ y ∈ d.ns.take (k + 1), y.length ≤ 130) := by
            intro z hz
            rw [List.take_succ_eq_append_getElem hki] at hz
            simp only [List.mem_append, List.mem_singleton] at hz
            rcases hz with hz | hz
            · exact HF.out z hz
            · subst hz; omega
          clear hyr HF hyl
          go_wp2_with fail
          exact ⟨⟨by first | rfl | trivial, k + 1, by omega, by go_num, HF2⟩, by simp [intOf]; omega⟩
      · have hge : ¬ (k : Int) < (n1 : Int) := by omega
        have HF1 : Hid (∀ y ∈ d.ns, y.length ≤ 130) := by
          have := HF.out
          rwa [List.take_of_length_le (by rw [HD.out.h1.len]; show n1 ≤ k; omega)] at this
        clear HF
        go_wp2_with fail
        obtain ⟨wz, hz⟩ : ∃ z, z = wr := ⟨_, rfl⟩
        subst hz
        go_loopw [4] (fun v wr => wr = wz ∧ ∃ k : Nat, k ≤ n3 ∧ v = .int .i64 (k : Int) ∧ Hid (∀ y ∈ d.ts.take k, y.size ≤ 300)) (fun v _ => n3 - (intOf v).toNat)
        case atStart => exact ⟨rfl, 0, Nat.zero_le _, rfl, by intro y hy; simp at hy⟩
        case round =>
          obtain ⟨hwr, j, hj, rfl, HF⟩ := hrel
          subst hwr
          by_cases hjt : j < n3
          · have hjt' : (j : Int) < (n3 : Int) := by omega
            have hji : j < d.ts.length := by rw [HD.out.h3.len]; exact hjt
            obtain ⟨b, o, ha, hbl, hy⟩ := HD.out.h3.rd.at j hji
            simp only at ha
            subst ha
            have hz63 := HD.out.h3.z63 _ (List.getElem_mem hji)
            obtain ⟨s, hs⟩ : ∃ s, d.ts[j] = s := ⟨_, rfl⟩
            rw [hs] at hy hz63
            have HS : Hid (d.ts[j] = s) := hs
            clear hs
            by_cases hy2 : (300 : Int) < (s.size : Int)
            · go_wp2_with fail
              go_ret
              exact lg_yes rfl HB.out
            · have HF2 : Hid (∀ y ∈ d.ts.take (j + 1), y.size ≤ 300) := by
                intro z hz
                rw [List.take_succ_eq_append_getElem hji] at hz
                simp only [List.mem_append, List.mem_singleton] at hz
                rcases hz with hz | hz
                · exact HF.out z hz
                · subst hz; rw [HS.out]; omega
              clear HF
              go_wp2_with fail
              exact ⟨⟨by first | rfl | trivial, j + 1, by omega, by go_num, HF2⟩, by simp [intOf]; omega⟩
          · have hjge : ¬ (j : Int) < (n3 : Int) := by omega
            have HF3 : Hid (∀ y ∈ d.ts, y.size ≤ 300) := by
              have := HF.out
              rwa [List.take_of_length_le (by rw [HD.out.h3.len]; show n3 ≤ j; omega)] at this
            clear HF
            go_wp2_with fail
            go_ret
            refine lg_no rfl ⟨?_, ?_, ?_, ?_, HF1.out, HF3.out⟩ HB.out
            · rw [HD.out.h1.len]; show n1 ≤ 6; omega
            · rw [HD.out.h2.len]; show n2 ≤ 12; omega
            · rw [HD.out.h3.len]; show n3 ≤ 300; omega
            · rw [HD.out.h4.len]; show n4 ≤ 65540; omega
end Go.Proofs.YtkjnbgekaifdfaaGreat
