/- Texts laid together: Base Own Str Row Tl Tm Xa Xd. -/
import Derived.WalkKit
import Derived.ProofKit
import Derived.Below
import Derived.Laws.BitsAllLaws
import Derived.Test.YtfkfjodfjgjbkaaGreatDoorRows
import Derived.WalkSpells
import Derived.OwnWalk
import Derived.Laws.CopyOwn
import Derived.Laws.IdiomStrings
import Derived.Laws.AppendOwn
import Derived.Deep.AppendSrc
import Derived.Deep.QuietTactic
import Derived.BigQuiet
import Derived.Deep.RegionHeld3
import Derived.Lib.ItoaNum
import Derived.Lib.Split
import Derived.Lib.ParseIntB
import Derived.Lib.Join
/- Bytes that can be read in memory, as lists of numbers; numbers out of bytes. No text of the program is used here. -/
namespace Go.Proofs.YtfkfjodfjgjbkaaGreatDoor
open Go.ChangeShapes Go.WideShapes Go.ChangeAt Go.RowKit


/-- From the address on the numbers lie there, each a byte. -/
def Rd (w : World) (a : Option Addr) (zs : List Int) : Prop :=
  (zs = [] ∨ ∃ b o, a = some ⟨b, o, none⟩ ∧ b < w.heap.size ∧ ∀ i, i < zs.length → w.cell? ⟨b, o + i, none⟩ = some (.int .u8 (zs.getD i 0))) ∧ ∀ z ∈ zs, 0 ≤ z ∧ z ≤ 255
theorem Rd.bd {w : World} {a : Option Addr} {zs : List Int} (h : Rd w a zs) (i : Nat) : 0 ≤ zs.getD i 0 ∧ zs.getD i 0 ≤ 255 := by
  by_cases hi : i < zs.length
  · have := h.2 (zs.getD i 0) (by rw [List.getD_eq_getElem?_getD, List.getElem?_eq_getElem hi]; simp)
    exact this
  · rw [List.getD_eq_getElem?_getD, List.getElem?_eq_none (by omega)]; simp
theorem Rd.of_blocks {w w' : World} {a : Option Addr} {zs : List Int} (h : Rd w a zs) (hs : w.heap.size ≤ w'.heap.size) (hb : ∀ b o, a = some ⟨b, o, none⟩ → w'.heap[b]? = w.heap[b]?) : Rd w' a zs := by
  refine ⟨?_, h.2⟩
  rcases h.1 with h1 | ⟨b, o, rfl, h1, h2⟩
  · exact .inl h1
  · refine .inr ⟨b, o, rfl, by omega, fun i hi => ?_⟩
    rw [← h2 i hi]
    exact World.cell?_of_block (w := w) (hb b o rfl)
theorem Rd.below {w w' : World} {a : Option Addr} {zs : List Int} (h : Rd w a zs) (hb : Below w.heap.size w w') : Rd w' a zs := by
  refine ⟨?_, h.2⟩
  rcases h.1 with h1 | ⟨b, o, rfl, h1, h2⟩
  · exact .inl h1
  · refine .inr ⟨b, o, rfl, Nat.lt_of_lt_of_le h1 hb.size, fun i hi => ?_⟩
    rw [← h2 i hi]
    exact hb.cell (p := ⟨b, o + i, none⟩) h1
theorem Rd.cut {w : World} {a : Option Addr} {zs : List Int} (h : Rd w a zs) (at_ n : Nat) (hn : at_ + n ≤ zs.length) {a' : Option Addr}
    (ha : 0 < n → ∀ b o, a = some ⟨b, o, none⟩ → a' = some ⟨b, o + at_, none⟩) : Rd w a' ((zs.drop at_).take n) := by
  refine ⟨?_, fun z hz => h.2 z (List.mem_of_mem_drop (List.mem_of_mem_take hz))⟩
  by_cases h0 : n = 0
  · left; subst h0; simp
  · rcases h.1 with h1 | ⟨b, o, rfl, h1, h2⟩
    · subst h1; simp at hn; omega
    · refine .inr ⟨b, o + at_, ha (by omega) b o rfl, h1, fun i hi => ?_⟩
      have hi' : i < n := by simp at hi; omega
      have := h2 (at_ + i) (by omega)
      rw [Nat.add_assoc, this]
      congr 2
      simp [List.getD_eq_getElem?_getD, hi', List.getElem?_drop]
/-- The number that bytes are, the first the greatest. -/
def val (zs : List Int) : Int := zs.foldl (fun n c => n * 256 + c) 0
theorem val_snoc (zs : List Int) (c : Int) : val (zs ++ [c]) = val zs * 256 + c := by
  simp [val, List.foldl_append]
theorem val_bd (zs : List Int) (h : ∀ z ∈ zs, 0 ≤ z ∧ z ≤ 255) : 0 ≤ val zs ∧ val zs < 256 ^ zs.length := by
  have : ∀ (l : List Int) (n : Int) (k : Nat), (∀ z ∈ l, 0 ≤ z ∧ z ≤ 255) → 0 ≤ n → n < 256 ^ k → 0 ≤ l.foldl (fun n c => n * 256 + c) n ∧ l.foldl (fun n c => n * 256 + c) n < 256 ^ (k + l.length) := by
    intro l; induction l with
    | nil => intro n k _ h1 h2; exact ⟨h1, h2⟩
    | cons c l ih =>
      intro n k hl h1 h2
      have hc := hl c (by simp)
      have := ih (n * 256 + c) (k + 1) (fun z hz => hl z (by simp [hz])) (by omega) (by rw [Int.pow_succ]; omega)
      simpa [Nat.add_assoc, Nat.add_comm 1] using this
  have t := this zs 0 0 h (by omega) (by simp)
  rw [Nat.zero_add] at t
  exact t
theorem take_snoc (zs : List Int) (k : Nat) (h : k < zs.length) : zs.take (k + 1) = zs.take k ++ [zs.getD k 0] := by
  rw [List.take_succ_eq_append_getElem h]; simp [List.getD_eq_getElem?_getD, List.getElem?_eq_getElem h]
theorem val_small (zs : List Int) (h : ∀ z ∈ zs, 0 ≤ z ∧ z ≤ 255) (k : Nat) (hk : k ≤ 3) : 0 ≤ val (zs.take k) ∧ val (zs.take k) < 16777216 := by
  have hb := val_bd (zs.take k) (fun z hz => h z (List.mem_of_mem_take hz))
  have hp : (256 : Int) ^ (zs.take k).length ≤ 256 ^ 3 := by
    have hl : (zs.take k).length ≤ 3 := by simp; omega
    generalize (zs.take k).length = m at hl
    have : m = 0 ∨ m = 1 ∨ m = 2 ∨ m = 3 := by omega
    rcases this with rfl | rfl | rfl | rfl <;> decide
  have h3 : (256 : Int) ^ 3 = 16777216 := by decide
  omega
theorem val_small4 (zs : List Int) (h : ∀ z ∈ zs, 0 ≤ z ∧ z ≤ 255) (hk : zs.length ≤ 4) : 0 ≤ val zs ∧ val zs < 4294967296 := by
  have hb := val_bd zs h
  have hp : (256 : Int) ^ zs.length ≤ 256 ^ 4 := by
    generalize zs.length = m at hk
    have : m = 0 ∨ m = 1 ∨ m = 2 ∨ m = 3 ∨ m = 4 := by omega
    rcases this with rfl | rfl | rfl | rfl | rfl <;> decide
  have h3 : (256 : Int) ^ 4 = 4294967296 := by decide
  omega
theorem u32_join (v c : Int) (h1 : 0 ≤ v) (h2 : v < 16777216) (h3 : 0 ≤ c) (h4 : c ≤ 255) :
    bits .or .u32 (v * 256) (c % 4294967296) = v * 256 + c := by
  have e2 : c % 4294967296 = c := Int.emod_eq_of_lt (by omega) (by omega)
  rw [e2, u32_or _ _ (by omega) (by omega) (by omega) (by omega)]
  have := nat_join 8 (v * 256).toNat c.toNat (by omega) (by omega)
  rw [this]; omega
theorem u64_step (v c : Int) (h1 : 0 ≤ v) (h2 : v < 16777216) (h3 : 0 ≤ c) (h4 : c ≤ 255) :
    IntKind.u64.wrap (v * 256 + IntKind.u64.wrap c) = v * 256 + c := by
  rw [IntKind.wrap_u64, IntKind.wrap_u64]; omega
/-- A block that holds just these bytes, and may be written. -/
def Blk (w : World) (g : Nat) (zs : List Int) : Prop :=
  w.heap[g]? = some (.cells (zs.map (Value.int .u8)).toArray 5 (0, 0)) ∧ ∀ z ∈ zs, 0 ≤ z ∧ z ≤ 255
theorem Blk.lt {w : World} {g : Nat} {zs : List Int} (h : Blk w g zs) : g < w.heap.size := by
  have := h.1
  by_cases hg : g < w.heap.size
  · exact hg
  · rw [Array.getElem?_eq_none (by omega)] at this; cases this
theorem Blk.same {w w' : World} {g : Nat} {zs : List Int} (h : Blk w g zs) (hb : w'.heap[g]? = w.heap[g]?) : Blk w' g zs := ⟨hb.trans h.1, h.2⟩
theorem Blk.below {w w' : World} {g : Nat} {zs : List Int} (h : Blk w g zs) (hb : Below w.heap.size w w') : Blk w' g zs := h.same (hb.block g h.lt)
theorem Blk.cell {w : World} {g : Nat} {zs : List Int} (h : Blk w g zs) (i : Nat) (hi : i < zs.length) : w.cell? ⟨g, i, none⟩ = some (.int .u8 (zs.getD i 0)) := by
  simp [World.cell?, h.1, hi]
theorem Blk.frozen {w : World} {g : Nat} {zs : List Int} (h : Blk w g zs) (i : Nat) : w.frozen? ⟨g, i, none⟩ = false := by
  simp [World.frozen?, h.1]
theorem Blk.rd {w : World} {g : Nat} {zs : List Int} (h : Blk w g zs) (n : Nat) : Rd w (some ⟨g, 0, none⟩) (zs.take n) := by
  refine ⟨.inr ⟨g, 0, rfl, h.lt, fun i hi => ?_⟩, fun z hz => h.2 z (List.mem_of_mem_take hz)⟩
  rw [Nat.zero_add, h.cell i (by simp at hi; omega)]
  have : i < n := by simp at hi; omega
  simp [List.getD_eq_getElem?_getD, this]
theorem Rd.drew {w : World} {a : Option Addr} {zs : List Int} (h : Rd w a zs) : Rd w.drew a zs := h.below (Below.refl _ _).drew
theorem Blk.drew {w : World} {g : Nat} {zs : List Int} (h : Blk w g zs) : Blk w.drew g zs := h
end Go.Proofs.YtfkfjodfjgjbkaaGreatDoor
/- Lists of bytes that the program itself has made: making, appending, copying, writing, as steps of a walk. -/
namespace Go.Proofs.YtfkfjodfjgjbkaaGreatDoor
open Go.ChangeShapes Go.WideShapes Go.ChangeAt Go.RowKit
set_option linter.unusedVariables false
set_option linter.unusedSimpArgs false


theorem Tryz.info5 : (Tryz.prog.info? 5).map (fun i => (i.zero, i.size, i.bytes)) = some (some (.int .u8 0), 1, 1) := by kernel_rfl
/-- A list of bytes in a block of its own, from the block B on: n of them, the block's whole cells are zs. -/
def Own (B : Nat) (w : World) (v : Value) (n : Nat) (zs : List Int) : Prop :=
  (v = .slice none 0 0 ∧ n = 0 ∧ zs = []) ∨
  ∃ g, v = .slice (some ⟨g, 0, none⟩) n zs.length ∧ B ≤ g ∧ Blk w g zs ∧ n ≤ zs.length ∧ zs.length ≤ maxLen
theorem zeros_eq (k : Nat) : Builtin.zeroCells (Value.int .u8 0).cells k = ((List.replicate k (0 : Int)).map (Value.int .u8)).toArray := by
  apply Array.ext
  · simp [Builtin.zeroCells, Value.cells]
  · intro i h1 h2
    simp [Builtin.zeroCells, Value.cells]
    have : i % 1 = 0 := by omega
    simp [this]
theorem made_eq (k : Nat) : madeCells (Value.int .u8 0).cells (k * 1) = ((List.replicate k (0 : Int)).map (Value.int .u8)).toArray := by
  apply Array.ext
  · simp [madeCells, Value.cells]
  · intro i h1 h2
    simp [madeCells, Value.cells]
    have : i % 1 = 0 := by omega
    simp [this]
theorem rd_cells {w : World} {x : Addr} {zs : List Int} (h : Rd w (some x) zs) : ∀ j u, (zs.map (Value.int .u8))[j]? = some u → w.cell? (x.add j) = some u := by
  intro j u hu
  have hj : j < zs.length := by simpa using (List.getElem?_eq_some_iff.1 hu).1
  rcases h.1 with h1 | ⟨b, o, e, _, h2⟩
  · subst h1; simp at hj
  · cases e
    rw [Addr.add_lit, h2 j hj, ← hu]
    simp [hj]
theorem run_append_blk (w : World) (B : Nat) (ty : TypeId) (v : Value) (n : Nat) (zs : List Int) (hown : Own B w v n zs)
    (ao : Option Addr) (m c : Nat) (news : List Int) (hr : Rd w ao news) (hl : news.length = m) (hc : ao = none → c = 0) (hb : n + m ≤ 140737488355328) (hB : B ≤ w.heap.size) :
    ∃ v' w' zs', (Builtin.append_ #[27, 27] ty #[v, .slice ao m c]).run Tryz.prog w = .ok v' w' ∧ Own B w' v' (n + m) zs' ∧ zs'.take (n + m) = zs.take n ++ news ∧ w.grownBy w' v.ownBlock := by
  obtain ⟨i, hi, hz0, hz1, hz2⟩ := info_parts Tryz.info5
  cases ao with
  | none =>
    have hnews : news = [] := by
      rcases hr.1 with h1 | ⟨b, o, h, _⟩
      · exact h1
      · cases h
    subst hnews; subst hl
    rw [hc rfl]
    refine ⟨v, w, zs, ?_, hown, by simp, World.grownBy.refl _ _⟩
    rcases hown with ⟨rfl, rfl, rfl⟩ | ⟨g, rfl, hBg, hblk, hn, hm⟩
    · simp [Builtin.append_, run_underlying Tryz.underlying27, sizeOf, typeInfo, hi, Builtin.lenOf, Builtin.firstCells]
    · simp [Builtin.append_, run_underlying Tryz.underlying27, sizeOf, typeInfo, hi, Builtin.lenOf, Builtin.firstCells, hn, storeCells]
  | some a =>
    have hcs := rd_cells hr
    have hml : n + m ≤ maxLen := by simp only [maxLen]; omega
    have hlm : (news.map (Value.int .u8)).length = m * i.size := by rw [hz1]; simp [hl]
    have grown : ∀ (old : Nat), old < n + m → ∀ (row : Option Nat), (n = 0 ∨ n ≤ zs.length) →
        ∃ zs' : List Int, (.cells (((zs.take n).map (Value.int .u8)).toArray ++ (news.map (Value.int .u8)).toArray ++ Builtin.zeroCells (Value.int .u8 0).cells (grownCap w (n + m) old 5 - (n + m))) 5 : Obj) = .cells (zs'.map (Value.int .u8)).toArray 5 (0, 0) ∧
        zs'.length = grownCap w (n + m) old 5 ∧ zs'.take (n + m) = zs.take n ++ news ∧ (∀ z ∈ zs', 0 ≤ z ∧ z ≤ 255) := by
      intro old ho row hn
      have hge := grownCap_ge w (n + m) old 5
      have hzb : ∀ z ∈ zs, 0 ≤ z ∧ z ≤ 255 := by
        rcases hown with ⟨_, _, rfl⟩ | ⟨g, _, _, hblk, _⟩
        · intro z hz; cases hz
        · exact hblk.2
      have htl : (zs.take n).length = n := by
        rcases hn with rfl | hn
        · simp
        · simp; omega
      refine ⟨zs.take n ++ news ++ List.replicate (grownCap w (n + m) old 5 - (n + m)) 0, ?_, ?_, ?_, ?_⟩
      · rw [zeros_eq]; simp
      · simp only [List.length_append, htl, hl, List.length_replicate]; omega
      · rw [List.take_append_of_le_length (by simp only [List.length_append, htl, hl]; omega)]
        exact List.take_of_length_le (by simp only [List.length_append, htl, hl]; omega)
      · intro z hz
        simp only [List.mem_append, List.mem_replicate] at hz
        rcases hz with (hz | hz) | ⟨_, rfl⟩
        · exact hzb z (List.mem_of_mem_take hz)
        · exact hr.2 z hz
        · omega
    have fresh : ∀ (old : Nat), old < n + m → ∀ zs' : List Int, zs'.length = grownCap w (n + m) old 5 → (∀ z ∈ zs', 0 ≤ z ∧ z ≤ 255) →
        Own B (w.drew.alloc (.cells (zs'.map (Value.int .u8)).toArray 5 (0, 0))) (.slice (some ⟨w.heap.size, 0, none⟩) (n + m) (grownCap w (n + m) old 5)) (n + m) zs' := by
      intro old ho zs' hzl hzb
      refine .inr ⟨w.heap.size, by rw [hzl], hB, ⟨heap_alloc_new w.drew _, hzb⟩, ?_, ?_⟩
      · rw [hzl]; exact grownCap_ge w (n + m) old 5
      · rw [hzl]; exact grownCap_le_maxLen w (n + m) old 5 hml
    rcases hown with ⟨rfl, rfl, rfl⟩ | ⟨g, rfl, hBg, hblk, hn, hm⟩
    · by_cases hm0 : m = 0
      · subst hm0
        have hnews : news = [] := List.eq_nil_of_length_eq_zero hl
        subst hnews
        refine ⟨.slice none 0 0, w, [], ?_, .inl ⟨rfl, rfl, rfl⟩, by simp, World.grownBy.refl _ _⟩
        simp [Builtin.append_, run_underlying Tryz.underlying27, sizeOf, typeInfo, hi, Builtin.lenOf, Builtin.firstCells, loadCells, loadCellsFrom]
      · have hr' := run_append_nil (P := Tryz.prog) w 27 ty 5 i _ Tryz.underlying27 hi hz0 a m c (news.map (Value.int .u8)) hlm hcs (by omega) (by omega) (by rw [hz2]; omega)
        obtain ⟨zs', e1, e2, e3, e4⟩ := grown 0 (by omega) none (.inl rfl)
        have hf := fresh 0 (by omega) zs' e2 e4
        simp only [Nat.zero_add, List.take_nil, List.map_nil, List.nil_append, Array.empty_append, List.take_zero] at e1 e2 e3 hf ⊢
        rw [e1] at hr'
        exact ⟨_, _, zs', hr', hf, e3, ⟨rfl, rfl, rfl, by simp, fun k hk _ => Below.heap_alloc w.drew _ k hk⟩⟩
    · by_cases hroom : n + m ≤ zs.length
      · have hr' := run_append_room (P := Tryz.prog) w 27 ty 5 i Tryz.underlying27 hi g n zs.length _ hblk.1 a m c (news.map (Value.int .u8)) hlm hcs (ints_oneCell _ _) hroom (by rw [hz1]; simp [hl]; omega)
        have e : (((zs.map (Value.int .u8)).toArray.toList.take (n * i.size)) ++ news.map (Value.int .u8) ++ (zs.map (Value.int .u8)).toArray.toList.drop (n * i.size + (news.map (Value.int .u8)).length)).toArray = ((zs.take n ++ news ++ zs.drop (n + m)).map (Value.int .u8)).toArray := by
          rw [hz1]; simp [hl]
        rw [e] at hr'
        have hlen : (zs.take n ++ news ++ zs.drop (n + m)).length = zs.length := by simp [hl]; omega
        refine ⟨_, _, zs.take n ++ news ++ zs.drop (n + m), hr', .inr ⟨g, by rw [hlen], hBg, ⟨setRow_heap w g _ _ 5 _ hblk.1, ?_⟩, by rw [hlen]; exact hroom, by rw [hlen]; exact hm⟩, ?_,
          ⟨rfl, rfl, rfl, by simp, fun k _ hk => setRow_other w g k _ (fun e => hk (by simp [Value.ownBlock, e]))⟩⟩
        · intro z hz
          simp only [List.mem_append] at hz
          rcases hz with (hz | hz) | hz
          · exact hblk.2 z (List.mem_of_mem_take hz)
          · exact hr.2 z hz
          · exact hblk.2 z (List.mem_of_mem_drop hz)
        · rw [List.take_append_of_le_length (by simp [hl]; omega)]
          exact List.take_of_length_le (by simp [hl]; omega)
      · have holds : ∀ j u, ((zs.take n).map (Value.int .u8))[j]? = some u → w.cell? ((⟨g, 0, none⟩ : Addr).add j) = some u := rd_cells (hblk.rd n)
        have hr' := run_append_grow (P := Tryz.prog) w 27 ty 5 i _ Tryz.underlying27 hi hz0 ⟨g, 0, none⟩ n zs.length ((zs.take n).map (Value.int .u8)) (by rw [hz1]; simp; omega) holds a m c (news.map (Value.int .u8)) hlm hcs (by omega) (by simp only [maxLen] at hml; omega) (growslice_fits (by omega) (by rw [hz2]; omega))
        obtain ⟨zs', e1, e2, e3, e4⟩ := grown zs.length (by omega) none (.inr hn)
        have hf := fresh zs.length (by omega) zs' e2 e4
        rw [e1] at hr'
        exact ⟨_, _, zs', hr', hf, e3, ⟨rfl, rfl, rfl, by simp, fun k hk _ => Below.heap_alloc w.drew _ k hk⟩⟩
theorem wpList_append_blk (w : World) {ops : Array Oper} {rest : List Oper} {o : Oper} {a : Act} {Q : Exit → Act → World → Prop} (hgd : o.guard = none) (s x : Operand)
    (ho : o.op = .call { callee := .builtin .append, args := #[s, x], argTypes := #[27, 27] }) (B : Nat) (v : Value) (n : Nat) (zs : List Int) (hs : a.eval s = v) (hown : Own B w v n zs)
    (ao : Option Addr) (m c : Nat) (news : List Int) (hx : a.eval x = .slice ao m c) (hr : Rd w ao news) (hl : news.length = m) (hc : ao = none → c = 0) (hb : n + m ≤ 140737488355328) (hB : B ≤ w.heap.size)
    (h : ∀ v' w' zs', Hid (Own B w' v' (n + m) zs') → Hid (zs'.take (n + m) = zs.take n ++ news) → w.grownBy w' v.ownBlock → wpList Tryz.prog ops Q rest (a.put o.dst v') w') : wpList Tryz.prog ops Q (o :: rest) a w := by
  refine wpList_plain hgd fun K hK => ?_
  obtain ⟨v', w', zs', hrun, h2, h3, h4⟩ := run_append_blk w B o.type v n zs hown ao m c news hr hl hc hb hB
  unfold Oper.wp execOp
  simp only [ho, resolve, invoke, builtin, Sem.run_bind, Sem.run_pure, Result.andThen_ok, List.map_toArray, List.map_cons, List.map_nil, hs, hx, hrun]
  exact hK _ _ (h v' w' zs' h2 h3 h4)
/-- 'make([]byte, n)' and 'make([]byte, l, n)'. -/
theorem wpList_make_blk (w : World) {ops : Array Oper} {rest : List Oper} {o : Oper} {a : Act} {Q : Exit → Act → World → Prop} (hgd : o.guard = none) (s x : Operand)
    (ho : o.op = .makeSlice 27 s x) (l n : Nat) (L C : Int) (hs : a.eval s = .int .i64 L) (hx : a.eval x = .int .i64 C) (hL : L = (l : Int)) (hC : C = (n : Int)) (hln : l ≤ n) (hn : n ≤ 281474976710656)
    (h : wpList Tryz.prog ops Q rest (a.put o.dst (.slice (some ⟨w.heap.size, 0, none⟩) l n)) (w.alloc (.cells ((List.replicate n (0 : Int)).map (Value.int .u8)).toArray 5))) : wpList Tryz.prog ops Q (o :: rest) a w := by
  refine wpList_plain hgd fun K hK => ?_
  obtain ⟨i, hi, hz0, hz1, hz2⟩ := info_parts Tryz.info5
  have hrun := run_make (P := Tryz.prog) w 27 5 i _ Tryz.underlying27 hi hz0 .i64 .i64 (l : Int) (n : Int) (by omega) (by omega) (by rw [hz2]; omega) (by omega)
  rw [hz1] at hrun
  simp only [Int.toNat_natCast, made_eq] at hrun
  subst hL
  subst hC
  unfold Oper.wp
  simp only [execOp, ho, hs, hx, Sem.run_bind, hrun, Result.andThen]
  exact hK _ _ h
theorem run_copy_blk (w : World) (ty : TypeId) (g : Nat) (n c : Nat) (zs : List Int) (hblk : Blk w g zs) (ao : Option Addr) (m d : Nat) (news : List Int) (hr : Rd w ao news) (hl : news.length = m) (hmn : m ≤ n) (hn : n ≤ zs.length) (hd : ao = none → d = 0) :
    (Builtin.copy_ #[27, 27] ty #[.slice (some ⟨g, 0, none⟩) n c, .slice ao m d]).run Tryz.prog w = .ok (goInt m) (w.setRow g ((news ++ zs.drop m).map (Value.int .u8)).toArray) := by
  by_cases hm : m = 0
  · subst hm
    have hnews : news = [] := List.eq_nil_of_length_eq_zero hl
    subst hnews
    have := run_copy_none (P := Tryz.prog) w 27 27 ty 5 (some ⟨g, 0, none⟩) ao n c 0 d Tryz.underlying27 (by kernel_rfl) (by simp)
    rw [this]
    simp
    rw [setRow_self w g _ 5 (0, 0) (by simpa using hblk.1)]
  · cases ao with
    | none =>
      rcases hr.1 with h1 | ⟨b, o, h, _⟩
      · subst h1; simp at hl; omega
      · cases h
    | some x =>
      have := run_copy_row (P := Tryz.prog) w 27 27 ty 5 g 0 n c x m d _ 5 (news.map (Value.int .u8)) Tryz.underlying27 (by kernel_rfl) hblk.1 (by simp [hl, Nat.min_eq_left hmn]) (rd_cells hr) (by simp [hl]; omega) (ints_oneCell _ _)
      rw [this]
      simp [hl]
theorem wpList_copy_blk (w : World) {ops : Array Oper} {rest : List Oper} {o : Oper} {a : Act} {Q : Exit → Act → World → Prop} (hgd : o.guard = none) (s x : Operand)
    (ho : o.op = .call { callee := .builtin .copy, args := #[s, x], argTypes := #[27, 27] }) (g : Nat) (n c : Nat) (zs : List Int) (hs : a.eval s = .slice (some ⟨g, 0, none⟩) n c) (hblk : Blk w g zs)
    (ao : Option Addr) (m d : Nat) (news : List Int) (hx : a.eval x = .slice ao m d) (hr : Rd w ao news) (hl : news.length = m) (hmn : m ≤ n) (hn : n ≤ zs.length) (hd : ao = none → d = 0)
    (h : ∀ w', Hid (Blk w' g (news ++ zs.drop m)) → w.grownBy w' (some g) → Hid (w'.heap.size = w.heap.size) → wpList Tryz.prog ops Q rest (a.put o.dst (goInt m)) w') : wpList Tryz.prog ops Q (o :: rest) a w := by
  refine wpList_plain hgd fun K hK => ?_
  have hrun := run_copy_blk w o.type g n c zs hblk ao m d news hr hl hmn hn hd
  unfold Oper.wp execOp
  simp only [ho, resolve, invoke, builtin, Sem.run_bind, Sem.run_pure, Result.andThen_ok, List.map_toArray, List.map_cons, List.map_nil, hs, hx, hrun]
  refine hK _ _ (h _ ⟨setRow_heap w g _ _ 5 _ hblk.1, ?_⟩ ⟨rfl, rfl, rfl, by simp [World.setRow], fun k _ hk => setRow_other w g k _ (fun e => hk (by rw [e]))⟩ (show _ = _ by simp [World.setRow]))
  intro z hz
  simp only [List.mem_append] at hz
  rcases hz with hz | hz
  · exact hr.2 z hz
  · exact hblk.2 z (List.mem_of_mem_drop hz)
/-- A store of a byte into a block. -/
theorem Blk.stored {w : World} {g : Nat} {zs : List Int} (h : Blk w g zs) (i : Nat) (z : Int) (hz : 0 ≤ z ∧ z ≤ 255) : Blk (w.setCell ⟨g, i, none⟩ (.int .u8 z)) g (zs.set i z) := by
  refine ⟨?_, fun x hx => ?_⟩
  · have hg := h.lt
    have h1 := h.1
    have e : w.heap[g] = .cells (zs.map (Value.int .u8)).toArray 5 (0, 0) := by
      rw [Array.getElem?_eq_getElem hg] at h1; exact Option.some.inj h1
    simp [World.setCell, hg, Array.getElem_modify, e, List.map_set]
  · rcases List.mem_or_eq_of_mem_set hx with hx | hx
    · exact h.2 x hx
    · subst hx; exact hz
end Go.Proofs.YtfkfjodfjgjbkaaGreatDoor
/- Lists of bytes of one's own, texts as numbers, and what stays of them. -/
namespace Go.Proofs.YtfkfjodfjgjbkaaGreatDoor
open Go.ChangeShapes Go.WideShapes Go.ChangeAt Go.RowKit
set_option linter.unusedVariables false
set_option linter.unusedSimpArgs false


/-- The text of bytes. -/
def txt (zs : List Int) : List UInt8 := zs.map fun z => UInt8.ofNat z.toNat
theorem txt_len (zs : List Int) : (txt zs).length = zs.length := by simp [txt]
theorem conv_rd (a : Option Addr) (n c : Nat) (zs : List Int) (w : World) (hr : Rd w a zs) (hl : zs.length = n) :
    (convert 27 9 (.slice a n c)).run Tryz.prog w = .ok (.string ⟨(txt zs).toArray⟩) w := by
  cases a with
  | none =>
    rcases hr.1 with h1 | ⟨b, o, h, _⟩
    · subst h1; subst hl
      rw [run_convert_bytes_string w 27 9 5 none _ c Tryz.underlying27 Tryz.underlying5 Tryz.underlying9]
      simp [Conv.bytesToString, txt]
      rfl
    · cases h
  | some x =>
    have := run_convert_bytes_back (P := Tryz.prog) w 27 9 5 x c (txt zs) Tryz.underlying27 Tryz.underlying5 Tryz.underlying9 (fun j hj => by
      rcases hr.1 with h1 | ⟨b, o, h, _, h2⟩
      · subst h1; simp [txt] at hj
      · cases h
        have hj' : j < zs.length := by simpa [txt] using hj
        have e := h2 j hj'
        have hz := hr.2 (zs[j]) (List.getElem_mem hj')
        rw [Addr.add_lit, e]
        simp [txt, hj']
        omega)
    rw [txt_len, hl] at this
    exact this
/-- A list of bytes at an address of its own. -/
def OwnA (B : Nat) (w : World) (ao : Option Addr) (n : Nat) (zs : List Int) : Prop :=
  (ao = none ∧ n = 0 ∧ zs = []) ∨ ∃ g, ao = some ⟨g, 0, none⟩ ∧ B ≤ g ∧ Blk w g zs ∧ n ≤ zs.length ∧ zs.length ≤ maxLen
/-- The block of an address. -/
def blk (ao : Option Addr) : Option Nat := ao.map (·.block)
theorem Own.addr {B : Nat} {w : World} {v : Value} {n : Nat} {zs : List Int} (h : Own B w v n zs) : ∃ ao, v = .slice ao n zs.length ∧ OwnA B w ao n zs := by
  rcases h with ⟨rfl, rfl, rfl⟩ | ⟨g, rfl, hB, hb, hn, hm⟩
  · exact ⟨none, rfl, .inl ⟨rfl, rfl, rfl⟩⟩
  · exact ⟨some ⟨g, 0, none⟩, rfl, .inr ⟨g, rfl, hB, hb, hn, hm⟩⟩
theorem OwnA.mono {B B' : Nat} {w : World} {ao : Option Addr} {n : Nat} {zs : List Int} (h : OwnA B w ao n zs) (hB : B' ≤ B) : OwnA B' w ao n zs := by
  rcases h with h | ⟨g, h1, h2, h3⟩
  · exact .inl h
  · exact .inr ⟨g, h1, Nat.le_trans hB h2, h3⟩
theorem OwnA.keep {B : Nat} {w w' : World} {ao : Option Addr} {n : Nat} {zs : List Int} (h : OwnA B w ao n zs) (hb : ∀ g, blk ao = some g → g < w.heap.size → w'.heap[g]? = w.heap[g]?) : OwnA B w' ao n zs := by
  rcases h with h | ⟨g, rfl, h2, h3, h4⟩
  · exact .inl h
  · exact .inr ⟨g, rfl, h2, h3.same (hb g rfl h3.lt), h4⟩
theorem OwnA.below {B : Nat} {w w' : World} {ao : Option Addr} {n : Nat} {zs : List Int} (h : OwnA B w ao n zs) (hb : Below w.heap.size w w') : OwnA B w' ao n zs :=
  h.keep fun g _ hg => hb.block g hg
theorem OwnA.lt {B : Nat} {w : World} {ao : Option Addr} {n : Nat} {zs : List Int} (h : OwnA B w ao n zs) : ∀ g, blk ao = some g → B ≤ g ∧ g < w.heap.size := by
  intro g hg
  rcases h with ⟨rfl, _⟩ | ⟨g', rfl, h2, h3, _⟩
  · cases hg
  · have : g' = g := Option.some.inj hg
    subst this; exact ⟨h2, h3.lt⟩
theorem OwnA.rd {B : Nat} {w : World} {ao : Option Addr} {n : Nat} {zs : List Int} (h : OwnA B w ao n zs) : Rd w ao zs := by
  rcases h with ⟨rfl, _, rfl⟩ | ⟨g, rfl, h2, h3, _⟩
  · exact ⟨.inl rfl, by simp⟩
  · have := h3.rd zs.length
    rwa [List.take_of_length_le (Nat.le_refl _)] at this
theorem OwnA.rdTake {B : Nat} {w : World} {ao : Option Addr} {n : Nat} {zs : List Int} (h : OwnA B w ao n zs) (m : Nat) : Rd w ao (zs.take m) := by
  rcases h with ⟨rfl, _, rfl⟩ | ⟨g, rfl, h2, h3, _⟩
  · exact ⟨.inl (by simp), by simp⟩
  · exact h3.rd m
theorem OwnA.nil {B : Nat} {w : World} {ao : Option Addr} {n : Nat} {zs : List Int} (h : OwnA B w ao n zs) : ao = none → zs.length = 0 := by
  rintro rfl
  rcases h with ⟨_, _, rfl⟩ | ⟨g, h, _⟩
  · rfl
  · cases h
theorem OwnA.le {B : Nat} {w : World} {ao : Option Addr} {n : Nat} {zs : List Int} (h : OwnA B w ao n zs) : n ≤ zs.length ∧ zs.length ≤ maxLen := by
  rcases h with ⟨_, rfl, rfl⟩ | ⟨g, _, _, _, h4, h5⟩
  · exact ⟨Nat.le_refl _, Nat.zero_le _⟩
  · exact ⟨h4, h5⟩
/-- The bytes of a text, as numbers. -/
def nums (s : ByteArray) : List Int := s.data.toList.map fun b => (b.toNat : Int)
theorem nums_len (s : ByteArray) : (nums s).length = s.size := by simp [nums]
theorem nums_at (s : ByteArray) (i : Nat) (h : i < s.size) : (nums s).getD i 0 = (s[i].toNat : Int) := by
  have h' : i < s.data.toList.length := by simpa using h
  simp [nums, List.getD_eq_getElem?_getD]
  rw [show s.data[i]? = some s[i] from Array.getElem?_eq_getElem h]
  rfl
theorem nums_bd (s : ByteArray) (i : Nat) : 0 ≤ (nums s).getD i 0 ∧ (nums s).getD i 0 ≤ 255 := by
  by_cases h : i < s.size
  · rw [nums_at s i h]; have := s[i].toNat_lt; omega
  · rw [List.getD_eq_getElem?_getD, List.getElem?_eq_none (by rw [nums_len]; omega)]; simp
theorem Own.below {B : Nat} {w w' : World} {v : Value} {n : Nat} {zs : List Int} (h : Own B w v n zs) (hb : Below w.heap.size w w') : Own B w' v n zs := by
  rcases h with h | ⟨g, h1, h2, h3, h4⟩
  · exact .inl h
  · exact .inr ⟨g, h1, h2, h3.below hb, h4⟩
theorem Own.lt {B : Nat} {w : World} {v : Value} {n : Nat} {zs : List Int} (h : Own B w v n zs) : ∀ g, v.ownBlock = some g → B ≤ g := by
  intro g hg
  rcases h with ⟨rfl, _⟩ | ⟨g', rfl, h2, _⟩
  · cases hg
  · have : g' = g := Option.some.inj hg
    omega
theorem new_rd (w : World) (z : Int) (hz : 0 ≤ z ∧ z ≤ 255) : Rd (w.alloc (.cells #[.int .u8 z] 5)) (some ⟨w.heap.size, 0, none⟩) [z] := by
  refine ⟨.inr ⟨w.heap.size, 0, rfl, by simp, fun i hi => ?_⟩, by simpa using hz⟩
  have : i = 0 := by simp at hi; omega
  subst this
  simp [go_sem]
theorem ret_int {k : IntKind} {a b : Int} (h : a = b) : Ending.returned (.int k a) = .returned (.int k b) := by rw [h]
theorem step_append_blk {ops : Array Oper} {o : Oper} {a : Act} {w : World} {K : Act → World → Prop} {Q : Exit → Act → World → Prop} {E : Prop} (hgd : o.guard = none) (s x : Operand)
    (ho : o.op = .call { callee := .builtin .append, args := #[s, x], argTypes := #[27, 27] }) (B : Nat) (v : Value) (n : Nat) (zs : List Int) (hs : a.eval s = v) (hown : Own B w v n zs)
    (ao : Option Addr) (m c : Nat) (news : List Int) (hx : a.eval x = .slice ao m c) (hr : Rd w ao news) (N : Nat) (hl : news.length = m) (hN : n + m = N) (hc : ao = none → c = 0) (hb : N ≤ 140737488355328) (hB : B ≤ w.heap.size)
    (h : ∀ v' w' zs', Hid (Own B w' v' N zs') → Hid (zs'.take N = zs.take n ++ news) → Hid (w.grownBy w' v.ownBlock) → K (a.put o.dst v') w') :
    if Region.wanted o (yielded ops a.tmps) = true then Oper.wp Tryz.prog o a w K Q else E := by
  have hw : Region.wanted o (yielded ops a.tmps) = true := by simp [Region.wanted, hgd]
  rw [if_pos hw]
  subst hN
  obtain ⟨v', w', zs', hrun, h2, h3, h4⟩ := run_append_blk w B o.type v n zs hown ao m c news hr hl hc hb hB
  unfold Oper.wp execOp
  simp only [ho, resolve, invoke, builtin, Sem.run_bind, Sem.run_pure, Result.andThen_ok, List.map_toArray, List.map_cons, List.map_nil, hs, hx, hrun]
  exact h v' w' zs' h2 h3 h4
theorem heap_set {w : World} {g : Nat} {cur : Array Value} {t : TypeId} {fr : Nat × Nat} (h : w.heap[g]? = some (.cells cur t fr)) (i : Nat) (v : Value) :
    (w.setCell ⟨g, i, none⟩ v).heap[g]? = some (.cells (cur.setIfInBounds i v) t fr) := by
  have hg : g < w.heap.size := (Array.getElem?_eq_some_iff.1 h).1
  have e : w.heap[g] = .cells cur t fr := by
    rw [Array.getElem?_eq_getElem hg] at h; exact Option.some.inj h
  simp [World.setCell, hg, Array.getElem_modify, e]
end Go.Proofs.YtfkfjodfjgjbkaaGreatDoor
/- Lists of one-cell values in blocks of one's own, of any program: what stays of them, and what append does. -/
namespace Go.Proofs.YtfkfjodfjgjbkaaGreatDoor
open Go.ChangeShapes Go.WideShapes Go.ChangeAt Go.RowKit
set_option linter.unusedVariables false
set_option linter.unusedSimpArgs false


/-- From the address on the values lie there. -/
def RdV (w : World) (a : Option Addr) (xs : List Value) : Prop :=
  xs = [] ∨ ∃ b o, a = some ⟨b, o, none⟩ ∧ b < w.heap.size ∧ ∀ i (h : i < xs.length), w.cell? ⟨b, o + i, none⟩ = some xs[i]
theorem RdV.below {w w' : World} {a : Option Addr} {xs : List Value} (h : RdV w a xs) (hb : Below w.heap.size w w') : RdV w' a xs := by
  rcases h with h1 | ⟨b, o, rfl, h1, h2⟩
  · exact .inl h1
  · exact .inr ⟨b, o, rfl, Nat.lt_of_lt_of_le h1 hb.size, fun i hi => (hb.cell (p := ⟨b, o + i, none⟩) h1).trans (h2 i hi)⟩
theorem RdV.cut {w : World} {a : Option Addr} {xs : List Value} (h : RdV w a xs) (p n : Nat) {a' : Option Addr}
    (ha : p < xs.length → ∀ b o, a = some ⟨b, o, none⟩ → a' = some ⟨b, o + p, none⟩) : RdV w a' ((xs.drop p).take n) := by
  by_cases h0 : (xs.drop p).take n = []
  · exact .inl h0
  · rcases h with h1 | ⟨b, o, rfl, h1, h2⟩
    · subst h1; simp at h0
    · have hp : p < xs.length := by
        by_cases hp : p < xs.length
        · exact hp
        · rw [List.drop_eq_nil_of_le (by omega)] at h0; simp at h0
      refine .inr ⟨b, o + p, ha hp b o rfl, h1, fun i hi => ?_⟩
      have hi2 : p + i < xs.length := by simp at hi; omega
      rw [Nat.add_assoc, h2 (p + i) hi2]
      simp
theorem RdV.cells {w : World} {a : Addr} {xs : List Value} (h : RdV w (some a) xs) : ∀ j u, xs[j]? = some u → w.cell? (a.add j) = some u := by
  intro j u hu
  obtain ⟨hj, e⟩ := List.getElem?_eq_some_iff.1 hu
  rcases h with h1 | ⟨b, o, e1, _, h2⟩
  · subst h1; simp at hj
  · cases e1
    rw [Addr.add_lit, h2 j hj, e]
/-- A block that holds just these, and may be written. -/
def BlkV (w : World) (g : Nat) (t : TypeId) (xs : List Value) : Prop := w.heap[g]? = some (.cells xs.toArray t (0, 0))
theorem BlkV.lt {w : World} {g : Nat} {t : TypeId} {xs : List Value} (h : BlkV w g t xs) : g < w.heap.size := (Array.getElem?_eq_some_iff.1 h).1
theorem BlkV.same {w w' : World} {g : Nat} {t : TypeId} {xs : List Value} (h : BlkV w g t xs) (hb : w'.heap[g]? = w.heap[g]?) : BlkV w' g t xs := hb.trans h
theorem BlkV.below {w w' : World} {g : Nat} {t : TypeId} {xs : List Value} (h : BlkV w g t xs) (hb : Below w.heap.size w w') : BlkV w' g t xs := h.same (hb.block g h.lt)
theorem BlkV.cell {w : World} {g : Nat} {t : TypeId} {xs : List Value} (h : BlkV w g t xs) (i : Nat) (hi : i < xs.length) : w.cell? ⟨g, i, none⟩ = some xs[i] := by
  have h' : w.heap[g]? = _ := h
  simp [World.cell?, h', hi]
theorem BlkV.frozen {w : World} {g : Nat} {t : TypeId} {xs : List Value} (h : BlkV w g t xs) (i : Nat) : w.frozen? ⟨g, i, none⟩ = false := by
  have h' : w.heap[g]? = _ := h
  simp [World.frozen?, h']
theorem BlkV.rd {w : World} {g : Nat} {t : TypeId} {xs : List Value} (h : BlkV w g t xs) (n : Nat) : RdV w (some ⟨g, 0, none⟩) (xs.take n) := by
  refine .inr ⟨g, 0, rfl, h.lt, fun i hi => ?_⟩
  have : i < xs.length := by simp at hi; omega
  rw [Nat.zero_add, h.cell i this]
  simp
theorem BlkV.new (w : World) (t : TypeId) (xs : List Value) : BlkV (w.alloc (.cells xs.toArray t)) w.heap.size t xs := heap_alloc_new _ _
theorem BlkV.stored {w : World} {g : Nat} {t : TypeId} {xs : List Value} (h : BlkV w g t xs) (i : Nat) (x : Value) : BlkV (w.setCell ⟨g, i, none⟩ x) g t (xs.set i x) := by
  have hg := h.lt
  have h1 : w.heap[g]? = _ := h
  have e : w.heap[g] = .cells xs.toArray t (0, 0) := by
    rw [Array.getElem?_eq_getElem hg] at h1; exact Option.some.inj h1
  unfold BlkV
  simp [World.setCell, hg, Array.getElem_modify, e]
theorem BlkV.cellsSet : ∀ (vs : List Value) (o : Nat) {w : World} {g : Nat} {t : TypeId} {xs : List Value}, BlkV w g t xs → o + vs.length ≤ xs.length →
    BlkV (w.setCells g o vs) g t (xs.take o ++ vs ++ xs.drop (o + vs.length)) ∧ w.grownBy (w.setCells g o vs) (some g)
  | [], o, w, g, t, xs, h, _ => ⟨by simpa [World.setCells] using h, World.grownBy.refl _ _⟩
  | v :: r, o, w, g, t, xs, h, hl => by
    have hl' : o + 1 + r.length ≤ (xs.set o v).length := by simp at hl ⊢; omega
    obtain ⟨h1, h2⟩ := BlkV.cellsSet r (o + 1) (h.stored o v) hl'
    have e1 : (xs.set o v).take (o + 1) ++ r ++ (xs.set o v).drop (o + 1 + r.length) = xs.take o ++ (v :: r) ++ xs.drop (o + (v :: r).length) := by
      have ho : o < xs.length := by simp at hl; omega
      have ht : (xs.set o v).take (o + 1) = xs.take o ++ [v] := by
        rw [List.take_succ_eq_append_getElem (by simpa using ho), List.take_set_of_le (Nat.le_refl _)]
        simp
      have hd : (xs.set o v).drop (o + 1 + r.length) = xs.drop (o + (v :: r).length) := by
        rw [List.drop_set_of_lt (by omega)]
        congr 1
        simp; omega
      rw [ht, hd]
      simp
    rw [e1] at h1
    refine ⟨h1, ?_⟩
    have h0 : w.grownBy (w.setCell ⟨g, o, none⟩ v) (some g) := ⟨rfl, rfl, rfl, by simp [World.setCell], fun k _ hk => Below.heap_setCell _ _ _ _ (fun e => hk (by simp [e]))⟩
    exact ⟨h2.os.trans h0.os, h2.tape.trans h0.tape, h2.output.trans h0.output, Nat.le_trans h0.size h2.size, fun k hk hne => (h2.block k (Nat.lt_of_lt_of_le hk h0.size) hne).trans (h0.block k hk hne)⟩
/-- A list in a block of its own, from the block B on: n of them, the block's whole cells are xs. -/
def OwnV (B : Nat) (w : World) (t : TypeId) (v : Value) (n : Nat) (xs : List Value) : Prop :=
  (v = .slice none 0 0 ∧ n = 0 ∧ xs = []) ∨
  ∃ g, v = .slice (some ⟨g, 0, none⟩) n xs.length ∧ B ≤ g ∧ BlkV w g t xs ∧ n ≤ xs.length ∧ xs.length ≤ maxLen
theorem OwnV.keep {B : Nat} {w w' : World} {t : TypeId} {v : Value} {n : Nat} {xs : List Value} (h : OwnV B w t v n xs) (hb : ∀ g, v.ownBlock = some g → g < w.heap.size → w'.heap[g]? = w.heap[g]?) : OwnV B w' t v n xs := by
  rcases h with h | ⟨g, rfl, h2, h3, h4⟩
  · exact .inl h
  · exact .inr ⟨g, rfl, h2, h3.same (hb g rfl h3.lt), h4⟩
theorem OwnV.below {B : Nat} {w w' : World} {t : TypeId} {v : Value} {n : Nat} {xs : List Value} (h : OwnV B w t v n xs) (hb : Below w.heap.size w w') : OwnV B w' t v n xs := h.keep fun g _ hg => hb.block g hg
theorem OwnV.mono {B B' : Nat} {w : World} {t : TypeId} {v : Value} {n : Nat} {xs : List Value} (h : OwnV B w t v n xs) (hB : B' ≤ B) : OwnV B' w t v n xs := by
  rcases h with h | ⟨g, h1, h2, h3⟩
  · exact .inl h
  · exact .inr ⟨g, h1, Nat.le_trans hB h2, h3⟩
theorem OwnV.lt {B : Nat} {w : World} {t : TypeId} {v : Value} {n : Nat} {xs : List Value} (h : OwnV B w t v n xs) : ∀ g, v.ownBlock = some g → B ≤ g := by
  intro g hg
  rcases h with ⟨rfl, _⟩ | ⟨g', rfl, h2, _⟩
  · cases hg
  · have : g' = g := Option.some.inj hg
    omega
theorem OwnV.shape {B : Nat} {w : World} {t : TypeId} {v : Value} {n : Nat} {xs : List Value} (h : OwnV B w t v n xs) : ∃ ao, v = .slice ao n xs.length ∧ (ao = none → xs.length = 0) := by
  rcases h with ⟨rfl, rfl, rfl⟩ | ⟨g, rfl, _⟩
  · exact ⟨none, rfl, fun _ => rfl⟩
  · exact ⟨_, rfl, fun h => by cases h⟩
theorem OwnV.le {B : Nat} {w : World} {t : TypeId} {v : Value} {n : Nat} {xs : List Value} (h : OwnV B w t v n xs) : n ≤ xs.length ∧ xs.length ≤ maxLen := by
  rcases h with ⟨_, rfl, rfl⟩ | ⟨g, _, _, _, h4, h5⟩
  · exact ⟨Nat.le_refl _, Nat.zero_le _⟩
  · exact ⟨h4, h5⟩
theorem OwnV.rd {B : Nat} {w : World} {t : TypeId} {ao : Option Addr} {n c : Nat} {xs : List Value} (h : OwnV B w t (.slice ao n c) n xs) (m : Nat) : RdV w ao (xs.take m) := by
  rcases h with ⟨_, _, rfl⟩ | ⟨g, e, _, h3, _⟩
  · exact .inl (by simp)
  · have : ao = some ⟨g, 0, none⟩ := by injection e
    rw [this]; exact h3.rd m
theorem OwnV.nil (B : Nat) (w : World) (t : TypeId) : OwnV B w t (.slice none 0 0) 0 [] := .inl ⟨rfl, rfl, rfl⟩
/-- A list's source: what is appended. -/
theorem src_of {P : Program} {w : World} {tx e' : TypeId} (hk : P.underlying tx = some (.slice e')) {ao : Option Addr} {m c : Nat} {news : List Value} (hr : RdV w ao news) (hl : news.length = m) (h1 : ∀ u ∈ news, u.oneCell' = true) : Src P 1 tx (.slice ao m c) m news w := by
  cases ao with
  | none =>
    have hn : news = [] := by
      rcases hr with h | ⟨b, o, h, _⟩
      · exact h
      · cases h
    subst hn
    subst hl
    exact Src.ofNil w hk c
  | some a => exact Src.ofSlice w hk a m c news (by simp [hl]) hr.cells h1
theorem zeros_eq1 (z : Value) (hz : z.cells = #[z]) (k : Nat) : Builtin.zeroCells z.cells k = (List.replicate k z).toArray := by
  rw [hz]
  apply Array.ext
  · simp [Builtin.zeroCells]
  · intro i h1 h2
    simp [Builtin.zeroCells]
    have : i % 1 = 0 := by omega
    simp [this]
/-- What is known of an element's type. -/
structure ElemTy (P : Program) (t e : TypeId) (z : Value) (bt : Nat) : Prop where
  ht : P.underlying t = some (.slice e)
  hi : (P.info? e).map (fun i => (i.zero, i.size, i.bytes)) = some (some z, 1, bt)
  hz : z.cells = #[z]
theorem run_append_row {P : Program} {t e : TypeId} {z : Value} {bt : Nat} (T : ElemTy P t e z bt) (w : World) (B : Nat) (tx ty : TypeId) (v : Value) (n : Nat) (xs : List Value) (hown : OwnV B w e v n xs)
    (x : Value) (m : Nat) (news : List Value) (hs : Src P 1 tx x m news w) (hb : (n + m) * bt ≤ 140737488355328) (h63 : n + m ≤ maxLen) (hB : B ≤ w.heap.size) :
    ∃ v' w' xs', (Builtin.append_ #[t, tx] ty #[v, x]).run P w = .ok v' w' ∧ OwnV B w' e v' (n + m) xs' ∧ xs'.take (n + m) = xs.take n ++ news ∧ w.grownBy w' v.ownBlock ∧ (∀ Q : Value → Prop, Q z → (∀ u ∈ xs, Q u) → (∀ u ∈ news, Q u) → ∀ u ∈ xs', Q u) ∧ (n + m ≤ xs.length → xs'.length = xs.length) := by
  obtain ⟨i, hi, hz0, hz1, hz2⟩ := info_parts T.hi
  have hs' : Src P i.size tx x m news w := by rw [hz1]; exact hs
  have hnl : news.length = m := by simpa using hs.newsLen
  have grow : ∀ (base : Option Addr) (old : Nat), v = .slice base n old → old < n + m → (Builtin.firstCells i.size n (.slice base n old)).run P w.drew = .ok (xs.take n).toArray w.drew → (xs.take n).length = n → (n + m ≤ xs.length → False) →
      ∃ v' w' xs', (Builtin.append_ #[t, tx] ty #[v, x]).run P w = .ok v' w' ∧ OwnV B w' e v' (n + m) xs' ∧ xs'.take (n + m) = xs.take n ++ news ∧ w.grownBy w' v.ownBlock ∧ (∀ Q : Value → Prop, Q z → (∀ u ∈ xs, Q u) → (∀ u ∈ news, Q u) → ∀ u ∈ xs', Q u) ∧ (n + m ≤ xs.length → xs'.length = xs.length) := by
    intro base old hv ho hold htl hno
    have hge := grownCap_ge w (n + m) old e
    have hle := grownCap_le_maxLen w (n + m) old e h63
    have hr' := run_append_grow_src (P := P) w t tx ty e i z T.ht hi hz0 base n old (xs.take n) hold x m news hs' ho (by simp only [maxLen] at h63; omega) (growslice_fits ho (by rw [hz2]; exact hb))
    rw [zeros_eq1 z T.hz] at hr'
    have e1 : ((xs.take n ++ news).toArray ++ (List.replicate (grownCap w (n + m) old e - (n + m)) z).toArray) = (xs.take n ++ news ++ List.replicate (grownCap w (n + m) old e - (n + m)) z).toArray := by simp
    rw [e1] at hr'
    have hl : (xs.take n ++ news ++ List.replicate (grownCap w (n + m) old e - (n + m)) z).length = grownCap w (n + m) old e := by
      simp only [List.length_append, htl, hnl, List.length_replicate]; omega
    rw [hv]
    refine ⟨_, _, xs.take n ++ news ++ List.replicate (grownCap w (n + m) old e - (n + m)) z, hr', .inr ⟨w.heap.size, by rw [hl], hB, heap_alloc_new w.drew _, by rw [hl]; exact hge, by rw [hl]; exact hle⟩, ?_, ⟨rfl, rfl, rfl, by simp, fun k hk _ => Below.heap_alloc w.drew _ k hk⟩, ?_, fun h => (hno h).elim⟩
    · rw [List.take_append_of_le_length (by simp only [List.length_append, htl, hnl]; omega)]
      exact List.take_of_length_le (by simp only [List.length_append, htl, hnl]; omega)
    · intro Q qz qx qn u hu
      simp only [List.mem_append, List.mem_replicate] at hu
      rcases hu with (hu | hu) | ⟨_, rfl⟩
      · exact qx u (List.mem_of_mem_take hu)
      · exact qn u hu
      · exact qz
  rcases hown with ⟨rfl, rfl, rfl⟩ | ⟨g, rfl, hBg, hblk, hn, hm⟩
  · by_cases hm0 : m = 0
    · subst hm0
      have hnews : news = [] := List.eq_nil_of_length_eq_zero hnl
      subst hnews
      refine ⟨.slice none 0 0, w, [], ?_, .inl ⟨rfl, rfl, rfl⟩, by simp, World.grownBy.refl _ _, (fun Q _ _ _ u hu => nomatch hu), fun _ => rfl⟩
      rcases hs'.kind with ⟨e', hk⟩ | hk <;> simp [Builtin.append_, run_underlying T.ht, run_underlying hk, sizeOf, typeInfo, hi, hs'.len, hs'.cells]
    · exact grow none 0 rfl (by omega) (run_firstCells_none w.drew i.size 0 0 0) (by simp) (fun h => by simp at h; omega)
  · by_cases hroom : n + m ≤ xs.length
    · have hc : ∀ j, j < news.length → (w.cell? ⟨g, 0 + n * i.size + j, none⟩).isSome = true := by
        intro j hj
        have h2 : 0 + n * i.size + j < xs.length := by rw [hz1]; omega
        rw [hblk.cell _ h2]; rfl
      have hf : ∀ j, j < news.length → w.frozen? ⟨g, 0 + n * i.size + j, none⟩ = false := fun j _ => hblk.frozen _
      have hr' := run_append_room_src (P := P) w t tx ty e i T.ht hi g 0 n xs.length x m news hs' hroom hc hf
      obtain ⟨hset, hgr⟩ : BlkV (w.setCells g (0 + n * i.size) news) g e (xs.take n ++ news ++ xs.drop (n + m)) ∧ w.grownBy (w.setCells g (0 + n * i.size) news) (some g) := by
        have := BlkV.cellsSet news n hblk (by omega)
        rw [hnl] at this
        rw [hz1, Nat.mul_one, Nat.zero_add]
        exact this
      have hlen : (xs.take n ++ news ++ xs.drop (n + m)).length = xs.length := by simp [hnl]; omega
      refine ⟨_, _, xs.take n ++ news ++ xs.drop (n + m), hr', .inr ⟨g, by rw [hlen], hBg, hset, by rw [hlen]; exact hroom, by rw [hlen]; exact hm⟩, ?_, ?_, ?_, fun _ => hlen⟩
      · rw [List.take_append_of_le_length (by simp [hnl]; omega)]
        exact List.take_of_length_le (by simp [hnl]; omega)
      · exact hgr
      · intro Q qz qx qn u hu
        simp only [List.mem_append] at hu
        rcases hu with (hu | hu) | hu
        · exact qx u (List.mem_of_mem_take hu)
        · exact qn u hu
        · exact qx u (List.mem_of_mem_drop hu)
    · refine grow (some ⟨g, 0, none⟩) xs.length rfl (by omega) ?_ (by simp; omega) (fun h => hroom h)
      have := run_firstCells_some (P := P) w.drew i.size n ⟨g, 0, none⟩ n xs.length (xs.take n) (by rw [hz1]; simp; omega) (fun j u hu => (hblk.below (Below.refl _ _).drew).rd n |>.cells j u hu)
      exact this
/-- An append, as a step of a walk. -/
theorem wpList_append_row {P : Program} {t e : TypeId} {z : Value} {bt : Nat} (T : ElemTy P t e z bt) (w : World) {ops : Array Oper} {rest : List Oper} {o : Oper} {a : Act} {Q : Exit → Act → World → Prop} (hgd : o.guard = none) (s x : Operand) (tx : TypeId)
    (ho : o.op = .call { callee := .builtin .append, args := #[s, x], argTypes := #[t, tx] }) (B : Nat) (v : Value) (n : Nat) (xs : List Value) (hs : a.eval s = v) (hown : OwnV B w e v n xs)
    (xv : Value) (m : Nat) (news : List Value) (hx : a.eval x = xv) (hsrc : Src P 1 tx xv m news w) (hb : (n + m) * bt ≤ 140737488355328) (h63 : n + m ≤ maxLen) (hB : B ≤ w.heap.size)
    (h : ∀ v' w' xs', Hid (OwnV B w' e v' (n + m) xs') → Hid (xs'.take (n + m) = xs.take n ++ news) → w.grownBy w' v.ownBlock → Hid ((∀ Q : Value → Prop, Q z → (∀ u ∈ xs, Q u) → (∀ u ∈ news, Q u) → ∀ u ∈ xs', Q u) ∧ (n + m ≤ xs.length → xs'.length = xs.length)) → wpList P ops Q rest (a.put o.dst v') w') : wpList P ops Q (o :: rest) a w := by
  refine wpList_plain hgd fun K hK => ?_
  obtain ⟨v', w', xs', hrun, h2, h3, h4, h5⟩ := run_append_row T w B tx o.type v n xs hown xv m news hsrc hb h63 hB
  unfold Oper.wp execOp
  simp only [ho, resolve, invoke, builtin, Sem.run_bind, Sem.run_pure, Result.andThen_ok, List.map_toArray, List.map_cons, List.map_nil, hs, hx, hrun]
  exact hK _ _ (h v' w' xs' h2 h3 h4 h5)
/-- 'make', of a list of one-cell values. -/
theorem wpList_make_row {P : Program} {t e : TypeId} {z : Value} {bt : Nat} (T : ElemTy P t e z bt) (w : World) {ops : Array Oper} {rest : List Oper} {o : Oper} {a : Act} {Q : Exit → Act → World → Prop} (hgd : o.guard = none) (s x : Operand)
    (ho : o.op = .makeSlice t s x) (l n : Nat) (L C : Int) (hs : a.eval s = .int .i64 L) (hx : a.eval x = .int .i64 C) (hL : L = (l : Int)) (hC : C = (n : Int)) (hln : l ≤ n) (hn : n * bt ≤ 281474976710656) (h63 : n ≤ 9223372036854775807)
    (h : wpList P ops Q rest (a.put o.dst (.slice (some ⟨w.heap.size, 0, none⟩) l n)) (w.alloc (.cells (List.replicate n z).toArray e))) : wpList P ops Q (o :: rest) a w := by
  refine wpList_plain hgd fun K hK => ?_
  obtain ⟨i, hi, hz0, hz1, hz2⟩ := info_parts T.hi
  have hrun := run_make (P := P) w t e i z T.ht hi hz0 .i64 .i64 (l : Int) (n : Int) (by omega) (by omega) (by rw [hz2]; have hp : (bt : Int) * (n : Int) = ((n * bt : Nat) : Int) := (by rw [Int.natCast_mul, Int.mul_comm]); omega) (by omega)
  have hmk : ∀ k : Nat, madeCells z.cells (k * 1) = (List.replicate k z).toArray := by
    intro k
    rw [T.hz]
    apply Array.ext
    · simp [madeCells]
    · intro j h1 h2
      simp [madeCells]
      have : j % 1 = 0 := by omega
      simp [this]
  rw [hz1] at hrun
  simp only [Int.toNat_natCast, hmk] at hrun
  subst hL
  subst hC
  unfold Oper.wp
  simp only [execOp, ho, hs, hx, Sem.run_bind, hrun, Result.andThen]
  exact hK _ _ h
theorem run_copy_V {P : Program} {t e : TypeId} {z : Value} {bt : Nat} (T : ElemTy P t e z bt) (w : World) (tx ty : TypeId) (g : Nat) (n c : Nat) (xs : List Value) (hblk : BlkV w g e xs) (ao : Option Addr) (m d : Nat) (news : List Value) (hr : RdV w ao news) (h1 : ∀ u ∈ news, u.oneCell' = true) (hl : news.length = m) (hmn : m ≤ n) (hn : n ≤ xs.length) :
    (Builtin.copy_ #[t, tx] ty #[.slice (some ⟨g, 0, none⟩) n c, .slice ao m d]).run P w = .ok (goInt m) (w.setRow g (news ++ xs.drop m).toArray) := by
  obtain ⟨i, hi, hz0, hz1, hz2⟩ := info_parts T.hi
  have hsz : (P.info? e).map (·.size) = some 1 := by rw [hi]; simp [hz1]
  by_cases hm : m = 0
  · subst hm
    have hnews : news = [] := List.eq_nil_of_length_eq_zero hl
    subst hnews
    have := run_copy_none (P := P) w t tx ty e (some ⟨g, 0, none⟩) ao n c 0 d T.ht hsz (by simp)
    rw [this]
    simp
    rw [setRow_self w g _ e (0, 0) (by simpa [BlkV] using hblk)]
  · cases ao with
    | none =>
      rcases hr with h | ⟨b, o, h, _⟩
      · subst h; simp at hl; omega
      · cases h
    | some x =>
      have := run_copy_row (P := P) w t tx ty e g 0 n c x m d _ e news T.ht hsz hblk (by simp [hl, Nat.min_eq_left hmn]) hr.cells (by simp [hl]; omega) h1
      rw [this]
      simp [hl]
theorem BlkV.row {w : World} {g : Nat} {t : TypeId} {xs : List Value} (h : BlkV w g t xs) (ys : List Value) : BlkV (w.setRow g ys.toArray) g t ys := setRow_heap w g _ _ t _ h
end Go.Proofs.YtfkfjodfjgjbkaaGreatDoor
/- Lists of texts: read, compared, lent, kept, written over, copied. -/
namespace Go.Proofs.YtfkfjodfjgjbkaaGreatDoor
open Go.ChangeShapes Go.WideShapes Go.ChangeAt Go.RowKit
set_option linter.unusedVariables false
set_option linter.unusedSimpArgs false


theorem tyT : ElemTy Tryz.prog 26 9 (.string ⟨#[]⟩) 16 := ⟨Tryz.underlying26, by kernel_rfl, rfl⟩
theorem tyN : ElemTy Tryz.prog 45 9 (.string ⟨#[]⟩) 16 := ⟨Tryz.underlying45, by kernel_rfl, rfl⟩
/-- Texts as values. -/
def tv (ss : List ByteArray) : List Value := ss.map Value.string
theorem tv_len (ss : List ByteArray) : (tv ss).length = ss.length := by simp [tv]
theorem tv_at (ss : List ByteArray) (i : Nat) (h : i < (tv ss).length) : (tv ss)[i] = .string (ss[i]'(by rw [← tv_len]; exact h)) := by simp [tv]
theorem tv_one (ss : List ByteArray) : ∀ u ∈ tv ss, u.oneCell' = true := by
  intro u hu
  simp only [tv, List.mem_map] at hu
  obtain ⟨s, _, rfl⟩ := hu
  rfl
theorem tv_append (a b : List ByteArray) : tv (a ++ b) = tv a ++ tv b := by simp [tv]
theorem tv_take (a : List ByteArray) (n : Nat) : (tv a).take n = tv (a.take n) := by simp [tv, List.map_take]
theorem tv_drop (a : List ByteArray) (n : Nat) : (tv a).drop n = tv (a.drop n) := by simp [tv, List.map_drop]
/-- Texts that can be read at an address. -/
def RdT (w : World) (a : Option Addr) (ss : List ByteArray) : Prop := RdV w a (tv ss)
theorem RdT.below {w w' : World} {a : Option Addr} {ss : List ByteArray} (h : RdT w a ss) (hb : Below w.heap.size w w') : RdT w' a ss := RdV.below h hb
theorem RdT.at {w : World} {a : Option Addr} {ss : List ByteArray} (h : RdT w a ss) (i : Nat) (hi : i < ss.length) : ∃ b o, a = some ⟨b, o, none⟩ ∧ b < w.heap.size ∧ w.cell? ⟨b, o + i, none⟩ = some (.string ss[i]) := by
  rcases h with h | ⟨b, o, rfl, h1, h2⟩
  · have := congrArg List.length h
    rw [tv_len] at this
    simp at this
    subst this
    simp at hi
  · refine ⟨b, o, rfl, h1, ?_⟩
    rw [h2 i (by rw [tv_len]; exact hi), tv_at]
set_option maxRecDepth 100000 in
set_option maxHeartbeats 1000000 in
theorem sameT_yes (a b : Option Addr) (n c d : Nat) (ss : List ByteArray) (w : World) (hr : RdT w a ss) (hr' : RdT w b ss) (hl : ss.length = n) (hn : n ≤ 9223372036854775807) :
    Calls Tryz.prog 17 #[.slice a n c, .slice b n d] w fun e w' => e = .returned (.bool true) ∧ Hid (Below w.heap.size w w') := by
  have HR : Hid (RdT w a ss ∧ RdT w b ss) := ⟨hr, hr'⟩
  have HL : Hid (ss.length = n) := hl
  clear hr hr' hl
  go_enter Tryz.func17, Tryz.ntmps17
  go_wp2_with fail
  go_loopw [5] (fun x wr => ∃ k : Nat, k ≤ n ∧ x = .int .i64 k ∧ Hid (Below w.heap.size w wr)) (fun x _ => n - (intOf x).toNat)
  case atStart => exact ⟨0, Nat.zero_le _, rfl, Below.refl _ _⟩
  case round =>
    obtain ⟨k, hk, rfl, HB⟩ := hrel
    by_cases hlt : k < n
    · have hlt' : (k : Int) < (n : Int) := by omega
      have hks : k < ss.length := by rw [HL.out]; exact hlt
      obtain ⟨b1, o1, rfl, l1, c1⟩ := (HR.out.1.below HB.out).at k hks
      obtain ⟨b2, o2, rfl, l2, c2⟩ := (HR.out.2.below HB.out).at k hks
      generalize ss[k] = s at *
      go_wp2_with fail
      go_quiet (fail)
      have HB2 : Hid (Below w.heap.size w (wr.drewN nq)) := HB.out.trans ⟨rfl, rfl, rfl, Nat.le_refl _, fun _ _ => rfl⟩
      clear c1 c2
      generalize wr.drewN nq = W2 at *
      go_wp2
      exact ⟨⟨k + 1, by omega, by go_num, HB2⟩, by simp [intOf]; omega⟩
    · have hge : (n : Int) ≤ (k : Int) := by omega
      go_wp2
      go_ret
      exact ⟨rfl, HB.out⟩
/-- The mark behind a list of texts that is lent. -/
def mk : ByteArray := ⟨#[108, 101, 110, 116]⟩
def lentT (ss : List ByteArray) (k : Nat) : List ByteArray := ss ++ List.replicate k mk ++ List.replicate (3 - k) ⟨#[]⟩
theorem lentT_len (ss : List ByteArray) (k : Nat) (h : k ≤ 3) : (lentT ss k).length = ss.length + 3 := by simp [lentT]; omega
theorem lentT_zero (ss : List ByteArray) : lentT ss 0 = ss ++ List.replicate 3 ⟨#[]⟩ := by simp [lentT]
theorem lentT_step (ss : List ByteArray) (k : Nat) (h : k < 3) : (tv (lentT ss k)).set (ss.length + k) (.string mk) = tv (lentT ss (k + 1)) := by
  have : k = 0 ∨ k = 1 ∨ k = 2 := by omega
  rcases this with rfl | rfl | rfl <;> simp [lentT, tv, List.replicate]
theorem lentT_take (ss : List ByteArray) (k : Nat) : (lentT ss k).take ss.length = ss := by simp [lentT]
/-- What writing over a text makes of it. -/
def bang (s : ByteArray) : ByteArray := s ++ ⟨#[33]⟩
def overT (ss : List ByteArray) (k : Nat) : List ByteArray := (ss.take k).map bang ++ ss.drop k
theorem overT_len (ss : List ByteArray) (k : Nat) : (overT ss k).length = ss.length := by simp [overT]; omega
theorem overT_at (ss : List ByteArray) (k : Nat) (h : k < ss.length) : (tv (overT ss k))[k]? = some (.string ss[k]) := by
  have e : ((ss.take k).map bang).length = k := by simp; omega
  simp [tv, overT]
  rw [List.getElem?_append_right (by simp; omega)]
  simp [show min k ss.length = k by omega]
theorem overT_step (ss : List ByteArray) (k : Nat) (h : k < ss.length) : (tv (overT ss k)).set k (.string (bang ss[k])) = tv (overT ss (k + 1)) := by
  have e : ((ss.take k).map bang).length = k := by simp; omega
  unfold overT
  rw [List.take_succ_eq_append_getElem h, List.map_append, List.drop_eq_getElem_cons h]
  simp only [tv_append]
  rw [List.set_append_right _ _ (by rw [tv_len, e]; exact Nat.le_refl _), tv_len, e, Nat.sub_self, List.append_assoc]
  rfl
set_option maxRecDepth 100000 in
set_option maxHeartbeats 1000000 in
theorem overT_blk (g n c : Nat) (ss : List ByteArray) (w : World) (hb : BlkV w g 9 (tv ss)) (hl : ss.length = c) (hn : n ≤ c) (hm : c ≤ maxLen) (hz : ∀ s ∈ ss, s.size ≤ 1000000000000) :
    Calls Tryz.prog 20 #[.slice (some ⟨g, 0, none⟩) n c] w fun e w' => e = .returned (.tuple #[]) ∧ Hid (BlkV w' g 9 (tv (ss.map bang)) ∧ w.grownBy w' (some g) ∧ w'.heap.size = w.heap.size) := by
  have HB : Hid (BlkV w g 9 (tv ss)) := hb
  have HL : Hid (ss.length = c) := hl
  clear hb hl
  unfold maxLen at hm
  go_enter Tryz.func20, Tryz.ntmps20
  go_wp2
  go_loopw [3] (fun i wr => ∃ k : Nat, k ≤ c ∧ i = .int .i64 k ∧ Hid (BlkV wr g 9 (tv (overT ss k)) ∧ w.grownBy wr (some g) ∧ wr.heap.size = w.heap.size)) (fun i _ => c - (intOf i).toNat)
  case atStart => exact ⟨0, by omega, rfl, by simpa [overT] using HB.out, World.grownBy.refl _ _, rfl⟩
  case round =>
    obtain ⟨k, hk, rfl, HW⟩ := hrel
    by_cases hlt : k < c
    · have hks : k < ss.length := by rw [HL.out]; exact hlt
      have hc := HW.out.1.cell k (by rw [tv_len, overT_len]; exact hks)
      have hat := overT_at ss k hks
      rw [List.getElem?_eq_getElem (by rw [tv_len, overT_len]; exact hks)] at hat
      rw [Option.some.inj hat] at hc
      have hf := HW.out.1.frozen k
      have h1 : (k : Int) < (c : Int) := by omega
      have HS : Hid (BlkV (wr.setCell ⟨g, k, none⟩ (.string (bang ss[k]))) g 9 (tv (overT ss (k + 1)))) := by
        have := HW.out.1.stored k (.string (bang ss[k]))
        rw [overT_step ss k hks] at this
        exact this
      clear hat
      have hsk : ss[k].size ≤ 1000000000000 := hz _ (List.getElem_mem hks)
      generalize ss[k] = s at *
      go_wp2
      refine ⟨⟨k + 1, by omega, by go_num, HS.out, ?_, ?_⟩, by simp [intOf]; omega⟩
      · obtain ⟨_, hG, hz⟩ := HW.out
        exact ⟨hG.os, hG.tape, hG.output, by rw [← hz]; simp [World.setCell], fun j hj hne => (Below.heap_setCell _ _ _ j (fun e => hne (by rw [e]))).trans (hG.block j hj hne)⟩
      · rw [← HW.out.2.2]; simp [World.setCell]
    · obtain rfl : k = c := by omega
      go_wp2
      go_end0
      have h := HW.out
      have e : overT ss k = ss.map bang := by
        unfold overT
        rw [List.take_of_length_le (by rw [HL.out]; exact Nat.le_refl _), List.drop_eq_nil_of_le (by rw [HL.out]; exact Nat.le_refl _), List.append_nil]
      rw [e] at h
      exact ⟨rfl, h⟩
end Go.Proofs.YtfkfjodfjgjbkaaGreatDoor
/- Lists of texts of one's own: what append makes of them; copies; the names' helpers. -/
namespace Go.Proofs.YtfkfjodfjgjbkaaGreatDoor
open Go.ChangeShapes Go.WideShapes Go.ChangeAt Go.RowKit
set_option linter.unusedVariables false
set_option linter.unusedSimpArgs false


/-- A text of at most M bytes, as a value. -/
def QS (M : Nat) (u : Value) : Prop := ∃ s : ByteArray, u = .string s ∧ s.size ≤ M
theorem tv_of {M : Nat} : ∀ xs : List Value, (∀ u ∈ xs, QS M u) → ∃ ys, xs = tv ys ∧ ∀ s ∈ ys, s.size ≤ M
  | [], _ => ⟨[], rfl, by simp⟩
  | x :: xs, h => by
    obtain ⟨ys, e1, e2⟩ := tv_of xs (fun u hu => h u (by simp [hu]))
    obtain ⟨s, rfl, hs⟩ := h x (by simp)
    refine ⟨s :: ys, by rw [e1]; rfl, fun q hq => ?_⟩
    rcases List.mem_cons.1 hq with rfl | hq
    · exact hs
    · exact e2 q hq
theorem qs_tv {M : Nat} {ss : List ByteArray} (h : ∀ s ∈ ss, s.size ≤ M) : ∀ u ∈ tv ss, QS M u := by
  intro u hu
  simp only [tv, List.mem_map] at hu
  obtain ⟨s, hs, rfl⟩ := hu
  exact ⟨s, rfl, h s hs⟩
theorem tv_inj : ∀ {a b : List ByteArray}, tv a = tv b → a = b
  | [], [], _ => rfl
  | [], _ :: _, h => by simp [tv] at h
  | _ :: _, [], h => by simp [tv] at h
  | x :: a, y :: b, h => by
    simp only [tv, List.map_cons, List.cons.injEq, Value.string.injEq] at h
    rw [h.1, tv_inj (a := a) (b := b) h.2]
/-- A list of texts in a block of its own. -/
def OwnT (B : Nat) (w : World) (v : Value) (n : Nat) (ss : List ByteArray) (M : Nat) : Prop := OwnV B w 9 v n (tv ss) ∧ ∀ s ∈ ss, s.size ≤ M
theorem OwnT.below {B : Nat} {w w' : World} {v : Value} {n : Nat} {ss : List ByteArray} {M : Nat} (h : OwnT B w v n ss M) (hb : Below w.heap.size w w') : OwnT B w' v n ss M := ⟨h.1.below hb, h.2⟩
theorem OwnT.mono {B B' : Nat} {w : World} {v : Value} {n : Nat} {ss : List ByteArray} {M : Nat} (h : OwnT B w v n ss M) (hB : B' ≤ B) : OwnT B' w v n ss M := ⟨h.1.mono hB, h.2⟩
theorem OwnT.nil (B : Nat) (w : World) (M : Nat) : OwnT B w (.slice none 0 0) 0 [] M := ⟨OwnV.nil B w 9, by simp⟩
theorem OwnT.rd {B : Nat} {w : World} {ao : Option Addr} {n c : Nat} {ss : List ByteArray} {M : Nat} (h : OwnT B w (.slice ao n c) n ss M) (m : Nat) : RdT w ao (ss.take m) := by
  have := h.1.rd m
  rw [tv_take] at this
  exact this
theorem OwnT.shape {B : Nat} {w : World} {v : Value} {n : Nat} {ss : List ByteArray} {M : Nat} (h : OwnT B w v n ss M) : ∃ ao, v = .slice ao n ss.length ∧ (ao = none → ss.length = 0) := by
  obtain ⟨ao, h1, h2⟩ := h.1.shape
  rw [tv_len] at h1 h2
  exact ⟨ao, h1, h2⟩
theorem OwnT.le {B : Nat} {w : World} {v : Value} {n : Nat} {ss : List ByteArray} {M : Nat} (h : OwnT B w v n ss M) : n ≤ ss.length ∧ ss.length ≤ maxLen := by
  have := h.1.le
  rw [tv_len] at this
  exact this
theorem wpList_append_T {t : TypeId} (T : ElemTy Tryz.prog t 9 (.string ⟨#[]⟩) 16) (w : World) {ops : Array Oper} {rest : List Oper} {o : Oper} {a : Act} {Q : Exit → Act → World → Prop} (hgd : o.guard = none) (s x : Operand) (tx e' : TypeId) (hk : Tryz.prog.underlying tx = some (.slice e'))
    (ho : o.op = .call { callee := .builtin .append, args := #[s, x], argTypes := #[t, tx] }) (B : Nat) (v : Value) (n : Nat) (ss : List ByteArray) (M : Nat) (hs : a.eval s = v) (hown : OwnT B w v n ss M)
    (ao : Option Addr) (m c : Nat) (ns : List ByteArray) (hx : a.eval x = .slice ao m c) (hr : RdT w ao ns) (hl : ns.length = m) (hM : ∀ s ∈ ns, s.size ≤ M) (hb : n + m ≤ 8796093022000) (hB : B ≤ w.heap.size)
    (h : ∀ v' w' ys, Hid (OwnT B w' v' (n + m) ys M) → Hid (ys.take (n + m) = ss.take n ++ ns) → w.grownBy w' v.ownBlock → wpList Tryz.prog ops Q rest (a.put o.dst v') w') : wpList Tryz.prog ops Q (o :: rest) a w := by
  refine wpList_append_row T w hgd s x tx ho B v n (tv ss) hs hown.1 (.slice ao m c) m (tv ns) hx (src_of hk hr (by rw [tv_len]; exact hl) (tv_one ns)) (by omega) (by simp only [maxLen]; omega) hB ?_
  intro v' w' xs' h1 h2 h3 h4
  obtain ⟨ys, rfl, hys⟩ := tv_of (M := M) xs' (h4.out.1 (QS M) ⟨⟨#[]⟩, rfl, Nat.zero_le _⟩ (qs_tv hown.2) (qs_tv hM))
  refine h v' w' ys ⟨h1.out, hys⟩ ?_ h3
  have h2' := h2.out
  rw [tv_take, tv_take, ← tv_append] at h2'
  exact tv_inj h2'
theorem one_rdT (w : World) (s : ByteArray) : RdT (w.alloc (.cells #[.string s] 9)) (some ⟨w.heap.size, 0, none⟩) [s] := by
  refine .inr ⟨w.heap.size, 0, rfl, by simp, fun i hi => ?_⟩
  have : i = 0 := by simp [tv] at hi; omega
  subst this
  simp [go_sem, tv]
theorem emptyT (w : World) (M : Nat) : OwnT w.heap.size (w.alloc (.cells #[] 9)) (.slice (some ⟨w.heap.size, 0, none⟩) 0 0) 0 [] M :=
  ⟨.inr ⟨w.heap.size, rfl, Nat.le_refl _, heap_alloc_new _ _, Nat.le_refl _, Nat.zero_le _⟩, by simp⟩
def CopyPost (ss : List ByteArray) (M : Nat) (w : World) (e : Ending) (w' : World) : Prop :=
  ∃ v ys, e = .returned v ∧ Hid (OwnT w.heap.size w' v ss.length ys M ∧ ys.take ss.length = ss ∧ Below w.heap.size w w')
set_option maxRecDepth 100000 in
set_option maxHeartbeats 800000 in
theorem copyT_any (a : Option Addr) (cap len : Nat) (ss : List ByteArray) (M : Nat) (w : World) (hr : RdT w a ss) (hl : ss.length = len) (hM : ∀ s ∈ ss, s.size ≤ M) (hm : len ≤ 8796093022000) :
    Calls Tryz.prog 34 #[.slice a len cap] w (CopyPost ss M w) := by
  have HR : Hid (RdT w a ss ∧ ∀ s ∈ ss, s.size ≤ M) := ⟨hr, hM⟩
  have HL : Hid (ss.length = len) := hl
  clear hr hl hM
  have hb1 : Below w.heap.size w (w.alloc (.cells #[] 9)) := (Below.refl _ _).alloc (Nat.le_refl _) _
  go_enter Tryz.func34, Tryz.ntmps34
  go_wp2_with (at_builtin; refine wpList_append_T tyT _ rfl _ _ 26 9 Tryz.underlying26 rfl w.heap.size _ 0 [] M rfl (emptyT w M) a len cap ss rfl (HR.out.1.below hb1) HL.out HR.out.2 (by omega) (by simp) ?_; intro v' w' ys hO hT hG)
  go_ret
  refine ⟨v', ys, rfl, ?_, ?_, ?_⟩
  · have h := hO.out
    rw [Nat.zero_add, ← HL.out] at h
    exact h
  · have h := hT.out
    rw [Nat.zero_add, ← HL.out] at h
    simpa using h
  · refine hb1.grown hG (by simp) ?_
    intro k hk
    have e : w.heap.size = k := Option.some.inj hk
    omega
set_option maxRecDepth 100000 in
theorem sameN_yes (a b : Option Addr) (n c d : Nat) (ss : List ByteArray) (w : World) (hr : RdT w a ss) (hr' : RdT w b ss) (hl : ss.length = n) (hn : n ≤ 9223372036854775807) :
    Calls Tryz.prog 51 #[.slice a n c, .slice b n d] w fun e w' => e = .returned (.bool true) ∧ Hid (Below w.heap.size w w') := by
  have HX : Hid (Calls Tryz.prog 17 #[.slice a n c, .slice b n d] w fun e w' => e = .returned (.bool true) ∧ Hid (Below w.heap.size w w')) := sameT_yes a b n c d ss w hr hr' hl hn
  clear hr hr' hl
  go_enter Tryz.func51, Tryz.ntmps51
  go_wp2_with fail
  refine HX.out.mono ?_
  rintro e w1 ⟨rfl, H1⟩
  go_wp2
  go_ret
  exact ⟨rfl, H1⟩
set_option maxRecDepth 100000 in
theorem copyN_any (a : Option Addr) (cap len : Nat) (ss : List ByteArray) (M : Nat) (w : World) (hr : RdT w a ss) (hl : ss.length = len) (hM : ∀ s ∈ ss, s.size ≤ M) (hm : len ≤ 8796093022000) :
    Calls Tryz.prog 36 #[.slice a len cap] w (CopyPost ss M w) := by
  have HX : Hid (Calls Tryz.prog 34 #[.slice a len cap] w (CopyPost ss M w)) := copyT_any a cap len ss M w hr hl hM hm
  clear hr hl hM
  go_enter Tryz.func36, Tryz.ntmps36
  go_wp2_with fail
  refine HX.out.mono ?_
  rintro e w1 ⟨v, ys, rfl, H1⟩
  go_wp2
  go_ret
  exact ⟨v, ys, rfl, H1⟩
end Go.Proofs.YtfkfjodfjgjbkaaGreatDoor
/- Texts in quotes, escapes, addresses as texts: without any program. -/
namespace Go.Proofs.YtfkfjodfjgjbkaaGreatDoor
open Go Go.Lib
set_option linter.unusedVariables false
set_option linter.unusedSimpArgs false


/-- A byte as it stands in quotes. -/
def xq1 (c : Int) : List Int := if c < 32 ∨ 126 < c then [92, 48 + c / 100, 48 + c / 10 % 10, 48 + c % 10] else if c = 34 ∨ c = 92 then [92, c] else [c]
def xq (l : List Int) : List Int := l.flatMap xq1
def xquote (l : List Int) : List Int := 34 :: (xq l ++ [34])
def xdig (c : Int) : Bool := decide (48 ≤ c) && decide (c ≤ 57)
/-- A text read by its escapes. -/
def xstr (l : List Int) : Option (List Int) :=
  match l with
  | [] => some []
  | c :: l => if c = 92 then (match l with
      | [] => none
      | d :: r => if xdig d then (match r with
          | e :: f :: q => if xdig e && xdig f && decide (100 * (d - 48) + 10 * (e - 48) + (f - 48) ≤ 255) then (xstr q).map (fun o => (100 * (d - 48) + 10 * (e - 48) + (f - 48)) :: o) else none
          | _ => none)
        else (xstr r).map (fun o => d :: o))
    else (xstr l).map (fun o => c :: o)
termination_by l.length
theorem xstr_plain (c : Int) (l : List Int) (h : c ≠ 92) : xstr (c :: l) = (xstr l).map (fun o => c :: o) := by
  rw [xstr.eq_def]; simp [h]
theorem xstr_end : xstr [92] = none := by rw [xstr.eq_def]; simp
theorem xstr_esc (d : Int) (r : List Int) (h : xdig d = false) : xstr (92 :: d :: r) = (xstr r).map (fun o => d :: o) := by
  rw [xstr.eq_def]; simp [h]
theorem xstr_num (d e f : Int) (q : List Int) (h1 : xdig d = true) (h2 : xdig e = true) (h3 : xdig f = true) (h4 : 100 * (d - 48) + 10 * (e - 48) + (f - 48) ≤ 255) : xstr (92 :: d :: e :: f :: q) = (xstr q).map (fun o => (100 * (d - 48) + 10 * (e - 48) + (f - 48)) :: o) := by
  rw [xstr]; simp [h1, h2, h3, h4]
/-- What stands between the quotes is read as the text. -/
theorem xstr_q (l : List Int) (h : ∀ c ∈ l, 0 ≤ c ∧ c ≤ 255) : xstr (xq l) = some l := by
  induction l with
  | nil => show xstr [] = _; rw [xstr]
  | cons c l ih =>
    have hc := h c (List.mem_cons_self ..)
    have ih := ih (fun x hx => h x (List.mem_cons_of_mem _ hx))
    have e : xq (c :: l) = xq1 c ++ xq l := by simp [xq]
    rw [e]
    unfold xq1
    by_cases h1 : c < 32 ∨ 126 < c
    · rw [if_pos h1]
      simp only [List.cons_append, List.nil_append]
      have d1 : xdig (48 + c / 100) = true := by simp [xdig]; omega
      have d2 : xdig (48 + c / 10 % 10) = true := by simp [xdig]; omega
      have d3 : xdig (48 + c % 10) = true := by simp [xdig]; omega
      have hv : 100 * (48 + c / 100 - 48) + 10 * (48 + c / 10 % 10 - 48) + (48 + c % 10 - 48) = c := by omega
      rw [xstr_num _ _ _ _ d1 d2 d3 (by omega), ih, hv]; rfl
    · rw [if_neg h1]
      by_cases h2 : c = 34 ∨ c = 92
      · rw [if_pos h2]
        simp only [List.cons_append, List.nil_append]
        rw [xstr_esc _ _ (by rcases h2 with rfl | rfl <;> rfl), ih]; rfl
      · rw [if_neg h2]
        simp only [List.cons_append, List.nil_append]
        rw [xstr_plain _ _ (by omega), ih]; rfl
theorem xq_print (l : List Int) (h : ∀ c ∈ l, 0 ≤ c ∧ c ≤ 255) : ∀ c ∈ xq l, 32 ≤ c ∧ c ≤ 126 := by
  intro c hc
  simp only [xq, List.mem_flatMap] at hc
  obtain ⟨b, hb, hc⟩ := hc
  have := h b hb
  unfold xq1 at hc
  split at hc
  · simp at hc; omega
  · split at hc
    · simp at hc; omega
    · simp at hc; omega
theorem xquote_print (l : List Int) (h : ∀ c ∈ l, 0 ≤ c ∧ c ≤ 255) : ∀ c ∈ xquote l, 32 ≤ c ∧ c ≤ 126 := by
  intro c hc
  simp only [xquote, List.mem_cons, List.mem_append, List.mem_singleton, List.not_mem_nil, or_false] at hc
  rcases hc with rfl | hc | rfl
  · omega
  · exact xq_print l h c hc
  · omega
/-- A text cut at each byte c. -/
def xsplit (c : Int) : List Int → List (List Int)
  | [] => [[]]
  | x :: l => if x = c then [] :: xsplit c l else (match xsplit c l with | [] => [[x]] | p :: ps => (x :: p) :: ps)
def xjoin (c : Int) : List (List Int) → List Int
  | [] => []
  | [p] => p
  | p :: q :: ps => p ++ c :: xjoin c (q :: ps)
theorem xsplit_none (c : Int) (l : List Int) (h : c ∉ l) : xsplit c l = [l] := by
  induction l with
  | nil => rfl
  | cons x l ih =>
    simp only [List.mem_cons, not_or] at h
    simp only [xsplit]
    rw [if_neg (fun e => h.1 e.symm), ih h.2]
theorem xsplit_app (c : Int) (p l : List Int) (h : c ∉ p) : xsplit c (p ++ c :: l) = p :: xsplit c l := by
  induction p with
  | nil => simp [xsplit]
  | cons x p ih =>
    simp only [List.mem_cons, not_or] at h
    simp only [List.cons_append, xsplit]
    rw [if_neg (fun e => h.1 e.symm), ih h.2]
theorem xsplit_join (c : Int) (ps : List (List Int)) (hn : ps ≠ []) (h : ∀ p ∈ ps, c ∉ p) : xsplit c (xjoin c ps) = ps := by
  induction ps with
  | nil => exact absurd rfl hn
  | cons p ps ih =>
    cases ps with
    | nil => exact xsplit_none c p (h p (by simp))
    | cons q ps =>
      show xsplit c (p ++ c :: xjoin c (q :: ps)) = _
      rw [xsplit_app c p _ (h p (by simp)), ih (by simp) (fun x hx => h x (List.mem_cons_of_mem _ hx))]
/-- Decimal digits. -/
def xdec (n : Nat) : List Int := (decDigits n).map fun b => (b.toNat : Int)
def xhd (v : Nat) : Int := if v < 10 then 48 + v else 87 + v
def xhex (n : Nat) : List Int := if h : n < 16 then [xhd n] else xhex (n / 16) ++ [xhd (n % 16)]
termination_by n
/-- The value of a digit. -/
def xhv (c : Int) : Option Nat := if 48 ≤ c ∧ c ≤ 57 then some (c - 48).toNat else if 97 ≤ c ∧ c ≤ 102 then some (c - 87).toNat else if 65 ≤ c ∧ c ≤ 70 then some (c - 55).toNat else none
def xhval : List Int → Option Nat
  | l => l.foldl (fun a c => a.bind fun n => (xhv c).map fun v => 16 * n + v) (some 0)
def xgrp (l : List Int) : Option Nat := if 1 ≤ l.length ∧ l.length ≤ 4 then xhval l else none
theorem xhv_hd (v : Nat) (h : v < 16) : xhv (xhd v) = some v := by
  unfold xhv xhd
  by_cases h1 : v < 10
  · rw [if_pos h1, if_pos (by omega)]; congr 1; omega
  · rw [if_neg h1, if_neg (by omega), if_pos (by omega)]; congr 1; omega
theorem xhval_hex (n : Nat) : xhval (xhex n) = some n := by
  induction n using Nat.strongRecOn with
  | _ n ih =>
    rw [xhex]
    by_cases h : n < 16
    · rw [dif_pos h]; simp [xhval, xhv_hd n h]
    · rw [dif_neg h]
      have e := ih (n / 16) (by omega)
      unfold xhval at e ⊢
      rw [List.foldl_append, e]
      simp [xhv_hd (n % 16) (by omega)]
      omega
theorem xhex_len (n : Nat) (h : n < 65536) : 1 ≤ (xhex n).length ∧ (xhex n).length ≤ 4 := by
  rw [xhex]
  by_cases h1 : n < 16
  · rw [dif_pos h1]; simp
  · rw [dif_neg h1, xhex]
    by_cases h2 : n / 16 < 16
    · rw [dif_pos h2]; simp
    · rw [dif_neg h2, xhex]
      by_cases h3 : n / 16 / 16 < 16
      · rw [dif_pos h3]; simp
      · rw [dif_neg h3, xhex, dif_pos (by omega)]; simp
theorem xgrp_hex (n : Nat) (h : n < 65536) : xgrp (xhex n) = some n := by
  unfold xgrp; rw [if_pos (xhex_len n h), xhval_hex]
theorem xhd_big (v : Nat) : 48 ≤ xhd v ∧ xhd v ≠ 58 ∨ 10 ≤ v := by unfold xhd; split <;> omega
theorem xhex_no (n : Nat) : ∀ c ∈ xhex n, c ≠ 58 ∧ c ≠ 46 := by
  induction n using Nat.strongRecOn with
  | _ n ih =>
    rw [xhex]
    have hd : ∀ v, v < 16 → xhd v ≠ 58 ∧ xhd v ≠ 46 := by intro v hv; unfold xhd; split <;> omega
    by_cases h : n < 16
    · rw [dif_pos h]; intro c hc; simp at hc; subst hc; exact hd n h
    · rw [dif_neg h]; intro c hc
      simp only [List.mem_append, List.mem_singleton] at hc
      rcases hc with hc | rfl
      · exact ih (n / 16) (by omega) c hc
      · exact hd _ (by omega)
theorem xhex_ne (n : Nat) : xhex n ≠ [] := by
  rw [xhex]; split <;> simp
def xby (n : Nat) : List Int := [((n / 256 : Nat) : Int), ((n % 256 : Nat) : Int)]
/-- Numbers of two bytes, colons between; of nothing none. -/
def xgrps (l : List Int) : Option (List Int) := if l = [] then some [] else ((xsplit 58 l).mapM xgrp).map fun ns => ns.flatMap xby
/-- Cut at the first two colons. -/
def xdc : List Int → Option (List Int × List Int)
  | [] => none
  | x :: l => if x = 58 then (match l with | 58 :: r => some ([], r) | _ => (xdc l).map fun p => (x :: p.1, p.2)) else (xdc l).map fun p => (x :: p.1, p.2)
def xsix (l : List Int) : Option (List Int) :=
  match xdc l with
  | some p => (xgrps p.1).bind fun a => (xgrps p.2).bind fun b => if a.length + b.length ≤ 14 then some (a ++ List.replicate (16 - a.length - b.length) 0 ++ b) else none
  | none => (xgrps l).bind fun a => if a.length = 16 then some a else none
def xcol (l : List Nat) : List Int := xjoin 58 (l.map xhex)
theorem xgrps_col (l : List Nat) (h : ∀ n ∈ l, n < 65536) : xgrps (xcol l) = some (l.flatMap xby) := by
  cases l with
  | nil => rfl
  | cons n l =>
    have hne : xcol (n :: l) ≠ [] := by
      unfold xcol
      cases l with
      | nil => exact xhex_ne n
      | cons m l => simp [xjoin]
    unfold xgrps
    rw [if_neg hne]
    unfold xcol
    rw [xsplit_join 58 _ (by simp) (by
      intro p hp
      obtain ⟨m, _, rfl⟩ := List.mem_map.1 hp
      intro hc
      exact (xhex_no m 58 hc).1 rfl)]
    have hm : ∀ l : List Nat, (∀ n ∈ l, n < 65536) → (l.map xhex).mapM xgrp = some l := by
      intro l
      induction l with
      | nil => intro _; rfl
      | cons a l ih =>
        intro hl
        rw [List.map_cons, List.mapM_cons, xgrp_hex a (hl a (by simp)), ih (fun x hx => hl x (List.mem_cons_of_mem _ hx))]
        rfl
    rw [hm _ h]; rfl
/-- How many noughts a list begins with. -/
def xzr : List Nat → Nat
  | [] => 0
  | n :: l => if n = 0 then xzr l + 1 else 0
theorem xzr_le (l : List Nat) : xzr l ≤ l.length := by
  induction l with
  | nil => simp [xzr]
  | cons n l ih => simp only [xzr]; split <;> simp; omega
theorem xzr_take (l : List Nat) : ∀ m, m ≤ xzr l → l.take m = List.replicate m 0 := by
  induction l with
  | nil => intro m h; simp [xzr] at h; subst h; rfl
  | cons n l ih =>
    intro m h
    simp only [xzr] at h
    cases m with
    | zero => rfl
    | succ m =>
      split at h
      · next e => subst e; rw [List.take_succ_cons, ih m (by omega), List.replicate_succ]
      · omega
/-- Where the first of the longest runs of two or more noughts begins, and how long it is. -/
def xstep (l : List Nat) (p : Nat × Nat) (i : Nat) : Nat × Nat := if p.2 < xzr (l.drop i) then (i, xzr (l.drop i)) else p
def xlong (l : List Nat) : Nat × Nat := if ((List.range l.length).foldl (xstep l) (0, 1)).2 < 2 then (l.length, 0) else (List.range l.length).foldl (xstep l) (0, 1)
theorem xstep_ok (l : List Nat) : ∀ (is : List Nat) (p : Nat × Nat), (p.2 = 1 ∨ p.2 ≤ xzr (l.drop p.1)) → ((is.foldl (xstep l) p).2 = 1 ∨ (is.foldl (xstep l) p).2 ≤ xzr (l.drop (is.foldl (xstep l) p).1)) := by
  intro is
  induction is with
  | nil => intro p h; exact h
  | cons i is ih =>
    intro p h
    rw [List.foldl_cons]
    apply ih
    unfold xstep
    split
    · exact .inr (Nat.le_refl _)
    · exact h
theorem xlong_ok (l : List Nat) : ((xlong l).2 = 0 ∧ (xlong l).1 = l.length) ∨ (2 ≤ (xlong l).2 ∧ (xlong l).2 ≤ xzr (l.drop (xlong l).1)) := by
  have h := xstep_ok l (List.range l.length) (0, 1) (.inl rfl)
  unfold xlong
  split
  · exact .inl ⟨rfl, rfl⟩
  · next hn => exact .inr ⟨by omega, by omega⟩
/-- The text of eight numbers. -/
def xa6 (l : List Nat) : List Int := if (xlong l).2 = 0 then xcol l else xcol (l.take (xlong l).1) ++ 58 :: 58 :: xcol (l.drop ((xlong l).1 + (xlong l).2))
theorem xdc_pre (p r : List Int) (h : (58 : Int) ∉ p) : xdc (p ++ r) = (xdc r).map fun q => (p ++ q.1, q.2) := by
  induction p with
  | nil => simp
  | cons x p ih =>
    simp only [List.mem_cons, not_or] at h
    rw [List.cons_append, xdc.eq_def]
    simp only
    rw [if_neg (fun e => h.1 e.symm), ih h.2, Option.map_map]
    rfl
theorem xdc_one (c : Int) (r : List Int) (h : c ≠ 58) : xdc (58 :: c :: r) = (xdc (c :: r)).map fun q => (58 :: q.1, q.2) := by
  rw [xdc.eq_def]
  simp only
  rw [if_pos trivial]
  split
  · next r' e => injection e with e; exact absurd e h
  · rfl
theorem xcol_head (n : Nat) (l : List Nat) : ∃ c r, xcol (n :: l) = c :: r ∧ c ≠ 58 := by
  obtain ⟨c, r, e⟩ : ∃ c r, xhex n = c :: r := by
    cases h : xhex n with
    | nil => exact absurd h (xhex_ne n)
    | cons c r => exact ⟨c, r, rfl⟩
  have hc := (xhex_no n c (by rw [e]; simp)).1
  unfold xcol
  cases l with
  | nil => exact ⟨c, r, by simp [xjoin, e], hc⟩
  | cons m l => exact ⟨c, r ++ 58 :: xjoin 58 (xhex m :: l.map xhex), by simp [xjoin, e], hc⟩
theorem xhex_58 (n : Nat) : (58 : Int) ∉ xhex n := fun h => (xhex_no n 58 h).1 rfl
theorem xcol_cons (n m : Nat) (l : List Nat) : xcol (n :: m :: l) = xhex n ++ 58 :: xcol (m :: l) := by simp [xcol, xjoin]
theorem xdc_two (r : List Int) : xdc (58 :: 58 :: r) = some ([], r) := by rw [xdc]; simp
theorem xdc_col (l : List Nat) (r : List Int) : xdc (xcol l ++ 58 :: 58 :: r) = some (xcol l, r) := by
  induction l with
  | nil => exact xdc_two r
  | cons n l ih =>
    cases l with
    | nil =>
      show xdc (xhex n ++ 58 :: 58 :: r) = some (xhex n, r)
      rw [xdc_pre _ _ (xhex_58 n), xdc_two]; simp
    | cons m l =>
      rw [xcol_cons, List.append_assoc, xdc_pre _ _ (xhex_58 n), List.cons_append]
      obtain ⟨c, q, e, hc⟩ := xcol_head m l
      rw [e] at ih ⊢
      rw [List.cons_append] at ih ⊢
      rw [xdc_one _ _ hc, ih]; simp
theorem xdc_none (l : List Nat) : xdc (xcol l) = none := by
  induction l with
  | nil => rfl
  | cons n l ih =>
    cases l with
    | nil =>
      show xdc (xhex n) = none
      have := xdc_pre (xhex n) [] (xhex_58 n)
      rw [List.append_nil] at this
      rw [this]; rfl
    | cons m l =>
      rw [xcol_cons, xdc_pre _ _ (xhex_58 n)]
      obtain ⟨c, q, e, hc⟩ := xcol_head m l
      rw [e] at ih ⊢
      rw [xdc_one _ _ hc, ih]; rfl
theorem xby_len (l : List Nat) : (l.flatMap xby).length = 2 * l.length := by
  induction l with
  | nil => rfl
  | cons n l ih => rw [List.flatMap_cons, List.length_append, ih]; simp [xby]; omega
theorem xby_zero (m : Nat) : (List.replicate m 0).flatMap xby = List.replicate (2 * m) (0 : Int) := by
  induction m with
  | zero => rfl
  | succ m ih => rw [List.replicate_succ, List.flatMap_cons, ih, show 2 * (m + 1) = 2 * m + 1 + 1 by omega, List.replicate_succ, List.replicate_succ]; rfl
theorem xsix_back (l : List Nat) (h8 : l.length = 8) (h : ∀ n ∈ l, n < 65536) : xsix (xa6 l) = some (l.flatMap xby) := by
  unfold xa6 xsix
  rcases xlong_ok l with ⟨h1, h2⟩ | ⟨h1, h2⟩
  · rw [if_pos h1, xdc_none]
    simp only
    rw [xgrps_col l h, Option.bind_some, if_pos (by rw [xby_len, h8])]
  · rw [if_neg (by omega), xdc_col]
    simp only
    generalize (xlong l).1 = a at *
    generalize (xlong l).2 = m at *
    rw [xgrps_col _ (fun n hn => h n (List.mem_of_mem_take hn)), Option.bind_some, xgrps_col _ (fun n hn => h n (List.mem_of_mem_drop hn)), Option.bind_some]
    have hl := xzr_le (l.drop a)
    rw [List.length_drop] at hl
    have ht := xzr_take _ m h2
    rw [if_pos (by rw [xby_len, xby_len, List.length_take, List.length_drop]; omega)]
    congr 1
    have e1 : l = l.take a ++ (List.replicate m 0 ++ l.drop (a + m)) := by
      rw [← ht, ← List.drop_drop, List.take_append_drop, List.take_append_drop]
    have e2 : 16 - ((l.take a).flatMap xby).length - ((l.drop (a + m)).flatMap xby).length = 2 * m := by
      rw [xby_len, xby_len, List.length_take, List.length_drop]; omega
    rw [e2, ← xby_zero]
    conv => rhs; rw [e1]
    rw [List.flatMap_append, List.flatMap_append, List.append_assoc]
/-- The value of decimal digits. -/
def xdv (l : List Int) : Nat := l.foldl (fun a b => 10 * a + (b - 48).toNat) 0
theorem xdec_small {n : Nat} (h : n < 10) : xdec n = [48 + (n : Int)] := by
  unfold xdec
  rw [decDigits, dif_pos h]
  simp [UInt8.toNat_ofNat']
  omega
theorem xdec_big {n : Nat} (h : ¬ n < 10) : xdec n = xdec (n / 10) ++ [48 + ((n % 10 : Nat) : Int)] := by
  unfold xdec
  rw [decDigits, dif_neg h, List.map_append]
  congr 1
  simp [UInt8.toNat_ofNat']
  omega
theorem xdv_dec (n : Nat) : xdv (xdec n) = n := by
  induction n using Nat.strongRecOn with
  | _ n ih =>
    by_cases h : n < 10
    · rw [xdec_small h]; simp [xdv]; omega
    · rw [xdec_big h]
      have e := ih (n / 10) (by omega)
      unfold xdv at e ⊢
      rw [List.foldl_append, e]
      simp only [List.foldl_cons, List.foldl_nil]
      omega
theorem xdec_digit (n : Nat) : ∀ c ∈ xdec n, 48 ≤ c ∧ c ≤ 57 := by
  induction n using Nat.strongRecOn with
  | _ n ih =>
    by_cases h : n < 10
    · rw [xdec_small h]; intro c hc; simp at hc; subst hc; omega
    · rw [xdec_big h]; intro c hc
      simp only [List.mem_append, List.mem_singleton] at hc
      rcases hc with hc | rfl
      · exact ih (n / 10) (by omega) c hc
      · omega
/-- A number below a bound, no noughts ahead. -/
def xnum (l : List Int) (below : Nat) : Option Nat := if l = xdec (xdv l) ∧ xdv l < below then some (xdv l) else none
theorem xnum_dec (n below : Nat) (h : n < below) : xnum (xdec n) below = some n := by
  unfold xnum
  rw [xdv_dec, if_pos ⟨rfl, h⟩]
theorem xnum_some {l : List Int} {below n : Nat} (h : xnum l below = some n) : l = xdec n ∧ n < below := by
  unfold xnum at h
  split at h
  · next q => injection h with h; subst h; exact q
  · cases h
def xfour (l : List Int) : Option (List Int) := ((xsplit 46 l).mapM fun p => xnum p 256).bind fun a => if a.length = 4 then some (a.map Int.ofNat) else none
def xpaddr (l : List Int) : Option (List Int) := match xfour l with | some b => some b | none => xsix l
def xprs : List Int → List Nat
  | a :: b :: l => (256 * a.toNat + b.toNat) :: xprs l
  | _ => []
def xaddr (b : List Int) : Option (List Int) := if b.length = 4 then some (xjoin 46 (b.map fun c => xdec c.toNat)) else if b.length = 16 then some (xa6 (xprs b)) else none
theorem xcol_46 (l : List Nat) : (46 : Int) ∉ xcol l := by
  induction l with
  | nil => simp [xcol, xjoin]
  | cons n l ih =>
    cases l with
    | nil => exact fun h => (xhex_no n 46 h).2 rfl
    | cons m l =>
      rw [xcol_cons]
      intro h
      simp only [List.mem_append, List.mem_cons] at h
      rcases h with h | h | h
      · exact (xhex_no n 46 h).2 rfl
      · exact absurd h (by decide)
      · exact ih h
theorem xa6_46 (l : List Nat) : (46 : Int) ∉ xa6 l := by
  unfold xa6
  split
  · exact xcol_46 _
  · intro h
    simp only [List.mem_append, List.mem_cons] at h
    rcases h with h | h | h | h
    · exact xcol_46 _ h
    · exact absurd h (by decide)
    · exact absurd h (by decide)
    · exact xcol_46 _ h
theorem xprs_by (l : List Int) : ∀ k, l.length = 2 * k → (∀ c ∈ l, 0 ≤ c ∧ c ≤ 255) → (xprs l).length = k ∧ (xprs l).flatMap xby = l ∧ ∀ n ∈ xprs l, n < 65536 := by
  intro k
  induction k generalizing l with
  | zero => intro h _; have : l = [] := List.length_eq_zero_iff.1 (by omega); subst this; simp [xprs]
  | succ k ih =>
    intro h hb
    match l, h with
    | a :: b :: l, h =>
      simp only [List.length_cons] at h
      obtain ⟨i1, i2, i3⟩ := ih l (by omega) (fun c hc => hb c (by simp [hc]))
      have ha := hb a (by simp)
      have hbb := hb b (by simp)
      refine ⟨by simp [xprs, i1], ?_, ?_⟩
      · simp only [xprs, List.flatMap_cons, i2]
        have e : xby (256 * a.toNat + b.toNat) = [a, b] := by
          unfold xby
          have e1 : (((256 * a.toNat + b.toNat) / 256 : Nat) : Int) = a := by omega
          have e2 : (((256 * a.toNat + b.toNat) % 256 : Nat) : Int) = b := by omega
          rw [e1, e2]
        rw [e]; rfl
      · intro n hn
        simp only [xprs, List.mem_cons] at hn
        rcases hn with rfl | hn
        · omega
        · exact i3 n hn
    | [a], h => simp at h; omega
    | [], h => simp at h
/-- An address's text is read as its bytes. -/
theorem xaddr_back (b s : List Int) (hb : ∀ c ∈ b, 0 ≤ c ∧ c ≤ 255) (h : xaddr b = some s) : xpaddr s = some b := by
  unfold xaddr at h
  split at h
  · next h4 =>
    injection h with h
    subst h
    have hs : xsplit 46 (xjoin 46 (b.map fun c => xdec c.toNat)) = b.map fun c => xdec c.toNat := xsplit_join 46 _ (by intro e; rw [List.map_eq_nil_iff] at e; subst e; simp at h4) (by
      intro p hp
      obtain ⟨m, _, rfl⟩ := List.mem_map.1 hp
      intro hc
      have := xdec_digit _ _ hc
      omega)
    have hm : ∀ b : List Int, (∀ c ∈ b, 0 ≤ c ∧ c ≤ 255) → ((b.map fun c => xdec c.toNat).mapM fun p => xnum p 256) = some (b.map Int.toNat) := by
      intro b
      induction b with
      | nil => intro _; rfl
      | cons a b ih =>
        intro hb
        have ha := hb a (by simp)
        rw [List.map_cons, List.mapM_cons, xnum_dec _ _ (by omega), ih (fun x hx => hb x (List.mem_cons_of_mem _ hx))]
        rfl
    unfold xpaddr xfour
    rw [hs, hm b hb, Option.bind_some, if_pos (by rw [List.length_map, h4]), List.map_map]
    simp only
    congr 1
    conv => rhs; rw [← List.map_id b]
    apply List.map_congr_left
    intro c hc
    have := hb c hc
    exact Int.toNat_of_nonneg this.1
  · split at h
    · next h16 =>
      injection h with h
      subst h
      obtain ⟨i1, i2, i3⟩ := xprs_by b 8 (by omega) hb
      have hf : xfour (xa6 (xprs b)) = none := by
        unfold xfour
        rw [xsplit_none 46 _ (xa6_46 _)]
        cases hq : xnum (xa6 (xprs b)) 256 with
        | none => simp [List.mapM_cons, hq]
        | some n => simp [List.mapM_cons, hq]
      unfold xpaddr
      rw [hf]
      simp only
      rw [xsix_back _ i1 i3, i2]
    · cases h
end Go.Proofs.YtfkfjodfjgjbkaaGreatDoor
/- Texts cut, joined and searched, and decimal numbers, as the library says them, beside the document's own: without any program. -/
namespace Go.Proofs.YtfkfjodfjgjbkaaGreatDoor
open Go Go.Lib
set_option linter.unusedVariables false
set_option linter.unusedSimpArgs false


def bi (l : List UInt8) : List Int := l.map fun b => (b.toNat : Int)
theorem u8i {a b : UInt8} (h : (a.toNat : Int) = (b.toNat : Int)) : a = b := UInt8.toNat_inj.1 (by omega)
theorem bi_inj {l m : List UInt8} (h : bi l = bi m) : l = m := by
  induction l generalizing m with
  | nil => cases m with
    | nil => rfl
    | cons b m => simp [bi] at h
  | cons a l ih => cases m with
    | nil => simp [bi] at h
    | cons b m =>
      simp only [bi, List.map_cons] at h
      injection h with h1 h2
      rw [u8i h1, ih h2]
theorem bi_len (l : List UInt8) : (bi l).length = l.length := by simp [bi]
theorem bi_app (l m : List UInt8) : bi (l ++ m) = bi l ++ bi m := by simp [bi]
theorem bi_cons (b : UInt8) (l : List UInt8) : bi (b :: l) = (b.toNat : Int) :: bi l := rfl
theorem bi_mem (c : UInt8) (l : List UInt8) : (c.toNat : Int) ∈ bi l ↔ c ∈ l := by
  unfold bi
  rw [List.mem_map]
  constructor
  · rintro ⟨b, hb, e⟩; rw [← u8i e]; exact hb
  · intro h; exact ⟨c, h, rfl⟩
theorem bi_bd (l : List UInt8) : ∀ z ∈ bi l, 0 ≤ z ∧ z ≤ 255 := by
  intro z hz
  obtain ⟨b, _, rfl⟩ := List.mem_map.1 hz
  have := b.toNat_lt
  omega
theorem index_no (c : UInt8) (l : List UInt8) (h : c ∉ l) : index l [c] = -1 := by
  induction l with
  | nil => rfl
  | cons b l ih =>
    simp only [List.mem_cons, not_or] at h
    unfold index
    rw [ih h.2, if_neg (by simp [List.isPrefixOf]; exact h.1)]
    rfl
theorem index_at (c : UInt8) (p r : List UInt8) (h : c ∉ p) : index (p ++ c :: r) [c] = p.length := by
  induction p with
  | nil => simp [index, List.isPrefixOf]
  | cons b p ih =>
    simp only [List.mem_cons, not_or] at h
    rw [List.cons_append, index.eq_def]
    simp only
    rw [ih h.2, if_neg (by simp [List.isPrefixOf]; exact h.1)]
    have e : ((p.length : Int) == -1) = false := by rw [beq_eq_false_iff_ne]; omega
    simp [e]
theorem split_x (c : UInt8) : ∀ (n : Nat) (l : List UInt8), l.length ≤ n → (splitK [c] 0 (count l [c]) l).map bi = xsplit c.toNat (bi l) := by
  intro n
  induction n with
  | zero =>
    intro l hl
    have : l = [] := List.length_eq_zero_iff.1 (by omega)
    subst this
    rfl
  | succ n ih =>
    intro l hl
    by_cases hc : c ∈ l
    · obtain ⟨p, r, rfl, hp⟩ := List.eq_append_cons_of_mem hc
      have hi := index_at c p r hp
      rw [count_hit (by simp) hi]
      have e0 : (p ++ c :: r).drop (p.length + [c].length) = r := by
        rw [List.drop_append]
        simp
      rw [e0, Nat.add_comm 1, splitK, hi]
      have em : ((p.length : Int) == -1) = false := by rw [beq_eq_false_iff_ne]; omega
      rw [em]
      simp only [Bool.false_eq_true, if_false, Int.toNat_natCast, Nat.add_zero]
      rw [e0, List.map_cons, ih r (by simp only [List.length_append, List.length_cons] at hl; omega), bi_app, bi_cons,
        xsplit_app _ _ _ (fun h => hp ((bi_mem c p).1 h))]
      congr 1
      simp [List.take_append]
    · have hi := index_no c l hc
      rw [count_miss hi, splitK, xsplit_none _ _ (fun h => hc ((bi_mem c l).1 h))]
      rfl
theorem split_b (c : UInt8) (s : ByteArray) : (splitB ⟨#[c]⟩ 0 (countB s ⟨#[c]⟩) s).map (fun t => bi t.data.toList) = xsplit c.toNat (bi s.data.toList) := by
  have h := splitB_data ⟨#[c]⟩ 0 (countB s ⟨#[c]⟩) s
  have h2 := split_x c s.data.toList.length s.data.toList (Nat.le_refl _)
  rw [show (fun t : ByteArray => bi t.data.toList) = bi ∘ (fun t : ByteArray => t.data.toList) from rfl, ← List.map_map, h]
  exact h2
theorem splitK_len (sep : List UInt8) (sv : Nat) : ∀ (k : Nat) (l : List UInt8), k ≤ count l sep → sep ≠ [] → (splitK sep sv k l).length = k + 1 := by
  intro k
  induction k with
  | zero => intro l _ _; rfl
  | succ k ih =>
    intro l hk hs
    rcases index_spec l sep with ⟨h1, _⟩ | ⟨i, h1, _, _, _⟩
    · rw [count_miss h1] at hk; omega
    · rw [count_hit hs h1] at hk
      rw [splitK, h1]
      have em : ((i : Int) == -1) = false := by rw [beq_eq_false_iff_ne]; omega
      rw [em]
      simp only [Bool.false_eq_true, if_false, Int.toNat_natCast, List.length_cons]
      rw [ih _ (by omega) hs]
theorem splitB_len (c : UInt8) (s : ByteArray) : (splitB ⟨#[c]⟩ 0 (countB s ⟨#[c]⟩) s).length = countB s ⟨#[c]⟩ + 1 := by
  have h := congrArg List.length (splitB_data ⟨#[c]⟩ 0 (countB s ⟨#[c]⟩) s)
  rw [List.length_map] at h
  rw [h]
  exact splitK_len [c] 0 _ _ (Nat.le_refl _) (by simp)
/-- Cut at the first two colons, as the library says it. -/
theorem index_cc (l : List UInt8) : (xdc (bi l) = none → index l [58, 58] = -1) ∧ (∀ p r, xdc (bi l) = some (p, r) → ∃ a b, l = a ++ 58 :: 58 :: b ∧ bi a = p ∧ bi b = r ∧ index l [58, 58] = a.length) := by
  induction l with
  | nil => exact ⟨fun _ => rfl, fun p r h => by simp [bi, xdc] at h⟩
  | cons x l ih =>
    obtain ⟨i1, i2⟩ := ih
    have hstep : ¬ (∃ m, l = 58 :: m ∧ x = 58) → xdc (bi (x :: l)) = (xdc (bi l)).map (fun p => ((x.toNat : Int) :: p.1, p.2)) ∧ ([58, 58] : List UInt8).isPrefixOf (x :: l) = false := by
      intro hn
      rw [bi_cons, xdc.eq_def]
      simp only
      by_cases hx : x = 58
      · subst hx
        cases l with
        | nil => exact ⟨by simp [bi, xdc], by simp [List.isPrefixOf]⟩
        | cons y l =>
          have hy : y ≠ 58 := fun e => hn ⟨l, by rw [e], rfl⟩
          have hy' : (y.toNat : Int) ≠ 58 := fun e => hy (u8i e)
          refine ⟨?_, by simp [List.isPrefixOf]; exact fun e => hy e.symm⟩
          rw [if_pos (by rfl), bi_cons]
          split
          · next r' e => injection e with e1 e2; exact absurd e1 hy'
          · rfl
      · have hx' : (x.toNat : Int) ≠ 58 := fun e => hx (u8i e)
        rw [if_neg hx']
        exact ⟨rfl, by simp [List.isPrefixOf]; exact fun e => absurd e.symm hx⟩
    by_cases hh : ∃ m, l = 58 :: m ∧ x = 58
    · obtain ⟨m, rfl, rfl⟩ := hh
      have e : xdc (bi (58 :: 58 :: m)) = some ([], bi m) := xdc_two (bi m)
      have ei : index (58 :: 58 :: m) [58, 58] = 0 := by unfold index; rw [if_pos (by simp [List.isPrefixOf])]
      refine ⟨fun h => by (rw [e] at h; cases h), fun p r h => ?_⟩
      rw [e] at h
      injection h with h
      injection h with h1 h2
      exact ⟨[], m, rfl, h1, h2, ei⟩
    · obtain ⟨h1, h2⟩ := hstep hh
      constructor
      · intro h
        rw [h1, Option.map_eq_none_iff] at h
        unfold index
        rw [h2, i1 h]; rfl
      · intro p r h
        rw [h1, Option.map_eq_some_iff] at h
        obtain ⟨⟨q, t⟩, hq, he⟩ := h
        injection he with he1 he2
        subst he1; subst he2
        obtain ⟨a, b, rfl, ha, hb, hi⟩ := i2 q t hq
        refine ⟨x :: a, b, rfl, by rw [bi_cons, ha], hb, ?_⟩
        rw [index.eq_def]
        simp only
        rw [h2, hi]
        have em : ((a.length : Int) == -1) = false := by rw [beq_eq_false_iff_ne]; omega
        simp [em]
theorem cut_none (l : List UInt8) (h : xdc (bi l) = none) : Lib.cut l [58, 58] = (l, [], false) := by
  unfold Lib.cut
  rw [(index_cc l).1 h, if_neg (by decide)]
theorem cut_some (l : List UInt8) (p r : List Int) (h : xdc (bi l) = some (p, r)) : ∃ a b, Lib.cut l [58, 58] = (a, b, true) ∧ bi a = p ∧ bi b = r := by
  obtain ⟨a, b, rfl, ha, hb, hi⟩ := (index_cc l).2 p r h
  refine ⟨a, b, ?_, ha, hb⟩
  unfold Lib.cut
  rw [hi, if_pos (by omega)]
  simp [List.drop_append]
theorem has_x (c : UInt8) (l : List UInt8) : decide (0 ≤ indexByte l c) = true ↔ c ∈ l := by
  rw [← index_one, decide_eq_true_iff]
  by_cases h : c ∈ l
  · obtain ⟨p, r, rfl, hp⟩ := List.eq_append_cons_of_mem h
    rw [index_at c p r hp]
    simp only [h, iff_true]; omega
  · rw [index_no c l h]
    simp only [h, iff_false]; decide
theorem join_x (c : UInt8) (xs : List (List UInt8)) : bi (Lib.join xs [c]) = xjoin c.toNat (xs.map bi) := by
  cases xs with
  | nil => rfl
  | cons x xs =>
    induction xs generalizing x with
    | nil => rw [join_one]; rfl
    | cons y r ih =>
      rw [join_cons]
      have h := ih y
      rw [join_cons] at h
      simp only [List.map_cons, xjoin]
      rw [List.map_cons] at h
      rw [← h]
      simp [joinTail, bi]
theorem bi_dec (n : Nat) : bi (decDigits n) = xdec n := rfl
/-- The value of bytes as decimal digits. -/
theorem xdv_snoc (l : List Int) (b : Int) : xdv (l ++ [b]) = 10 * xdv l + (b - 48).toNat := by simp [xdv, List.foldl_append]
theorem xdec_ne (n : Nat) : xdec n ≠ [] := by
  by_cases h : n < 10
  · rw [xdec_small h]; simp
  · rw [xdec_big h]; simp
theorem xdec_of (l : List Int) (h0 : l ≠ []) (hd : ∀ b ∈ l, 48 ≤ b ∧ b ≤ 57) (hz : 1 < l.length → ∀ b r, l = b :: r → b ≠ 48) : l = xdec (xdv l) ∧ (1 < l.length → 10 ≤ xdv l) := by
  have key : ∀ (n : Nat) (l : List Int), l.length = n → l ≠ [] → (∀ b ∈ l, 48 ≤ b ∧ b ≤ 57) → (1 < l.length → ∀ b r, l = b :: r → b ≠ 48) → (l = xdec (xdv l) ∧ (1 < l.length → 10 ≤ xdv l)) := by
    intro n
    induction n with
    | zero => intro l hl h0; exact absurd (List.length_eq_zero_iff.1 hl) h0
    | succ n ih =>
      intro l hl h0 hd hz
      obtain ⟨q, b, rfl⟩ : ∃ q b, l = q ++ [b] := ⟨l.dropLast, l.getLast h0, (List.dropLast_concat_getLast h0).symm⟩
      have hb := hd b (by simp)
      have hq : ∀ c ∈ q, 48 ≤ c ∧ c ≤ 57 := fun c hc => hd c (by simp [hc])
      rw [xdv_snoc]
      by_cases hq0 : q = []
      · subst hq0
        have e : 10 * xdv [] + (b - 48).toNat = (b - 48).toNat := by simp [xdv]
        rw [e, xdec_small (by omega)]
        refine ⟨?_, fun h => by simp at h⟩
        simp only [List.nil_append, List.cons.injEq, and_true]
        omega
      · have hql : q.length = n := by simp at hl; omega
        have hp : 0 < q.length := List.length_pos_iff.2 hq0
        obtain ⟨i1, i2⟩ := ih q hql hq0 hq (fun h b' r e => hz (by simp; omega) b' (r ++ [b]) (by rw [e]; rfl))
        have h1 : 1 ≤ xdv q := by
          by_cases h : 1 < q.length
          · have := i2 h; omega
          · match q, hq0, h, hp with
            | [c], _, _, _ =>
              have := hz (by simp) c [b] rfl
              have hc := hq c (by simp)
              simp [xdv]; omega
            | _ :: _ :: _, _, h, _ => simp at h
        refine ⟨?_, fun _ => by omega⟩
        rw [xdec_big (by omega)]
        have e1 : (10 * xdv q + (b - 48).toNat) / 10 = xdv q := by omega
        have e2 : (10 * xdv q + (b - 48).toNat) % 10 = (b - 48).toNat := by omega
        rw [e1, e2, ← i1]
        congr 1
        simp only [List.cons.injEq, and_true]
        omega
  exact key l.length l rfl h0 hd hz
theorem xdec_head (n : Nat) : ∀ b r, xdec n = b :: r → b = 48 → n = 0 := by
  induction n using Nat.strongRecOn with
  | _ n ih =>
    intro b r e hb
    by_cases h : n < 10
    · rw [xdec_small h] at e
      injection e with e _
      omega
    · rw [xdec_big h] at e
      cases hq : xdec (n / 10) with
      | nil => exact absurd hq (xdec_ne _)
      | cons c q =>
        rw [hq, List.cons_append] at e
        injection e with e1 _
        have := ih (n / 10) (by omega) c q hq (by omega)
        omega
/-- What ParseUint makes of digits. -/
theorem pu_ok (M : Nat) (hM : M < 1844674407370955162) : ∀ (l : List UInt8) (acc u : Nat), acc ≤ M → (parseUintM M acc l = .ok u ↔ ((∀ b ∈ bi l, 48 ≤ b ∧ b ≤ 57) ∧ (bi l).foldl (fun a b => 10 * a + (b - 48).toNat) acc = u ∧ u ≤ M)) := by
  intro l
  induction l with
  | nil =>
    intro acc u ha
    simp only [parseUintM, bi, List.map_nil, List.foldl_nil]
    constructor
    · intro h; injection h with h; subst h; exact ⟨fun _ h => (by cases h), rfl, ha⟩
    · rintro ⟨_, h, _⟩; rw [h]
  | cons c r ih =>
    intro acc u ha
    rw [bi_cons, List.foldl_cons]
    have mono : ∀ (l : List Int) (a b : Nat), a ≤ b → a ≤ l.foldl (fun a b => 10 * a + (b - 48).toNat) b := by
      intro l
      induction l with
      | nil => intro a b h; exact h
      | cons x l ih => intro a b h; rw [List.foldl_cons]; exact ih a _ (by omega)
    simp only [parseUintM]
    by_cases hc : 48 ≤ c.toNat ∧ c.toNat ≤ 57
    · rw [if_pos hc, if_neg (by omega)]
      have e : acc * 10 + (c.toNat - 48) = 10 * acc + ((c.toNat : Int) - 48).toNat := by omega
      by_cases hm : M < acc * 10 + (c.toNat - 48)
      · rw [if_pos hm]
        constructor
        · intro h; cases h
        · rintro ⟨_, h1, h2⟩
          have := mono (bi r) _ _ (Nat.le_refl (10 * acc + ((c.toNat : Int) - 48).toNat))
          omega
      · rw [if_neg hm, ih _ u (by omega), e]
        constructor
        · rintro ⟨h1, h2, h3⟩
          refine ⟨?_, h2, h3⟩
          intro b hb
          rcases List.mem_cons.1 hb with rfl | hb
          · omega
          · exact h1 b hb
        · rintro ⟨h1, h2, h3⟩
          exact ⟨fun b hb => h1 b (List.mem_cons_of_mem _ hb), h2, h3⟩
    · rw [if_neg hc]
      constructor
      · intro h; cases h
      · rintro ⟨h1, _⟩
        have := h1 (c.toNat : Int) (List.mem_cons_self ..)
        omega
/-- A number without noughts ahead: as the program reads it. -/
def lnum (l : List Int) (below : Nat) : Option Nat := xnum l below
theorem lnum_zero (l : List Int) (below : Nat) (h1 : 1 < l.length) (h2 : l.head? = some 48) : xnum l below = none := by
  unfold xnum
  rw [if_neg]
  rintro ⟨h, _⟩
  cases l with
  | nil => simp at h1
  | cons b r =>
    simp at h2
    have := xdec_head (xdv (b :: r)) b r h.symm h2
    rw [this] at h
    rw [h, show (0 : Nat) = 0 from rfl, xdec_small (by omega)] at h1
    simp at h1
theorem lnum_ok (B : Nat) (hB : 2 ^ B - 1 < 1844674407370955162) (l : List UInt8) (u : Nat) (hz : ¬ (1 < l.length ∧ (bi l).head? = some 48)) : parseUintB B l = .ok u ↔ xnum (bi l) (2 ^ B) = some u := by
  have hp : 0 < 2 ^ B := Nat.two_pow_pos B
  unfold parseUintB
  by_cases h0 : l = []
  · subst h0
    rw [if_pos rfl]
    constructor
    · intro h; cases h
    · intro h
      have := (xnum_some h).1
      exact absurd this.symm (xdec_ne _)
  · rw [if_neg h0, pu_ok _ hB l 0 u (by omega)]
    have hb0 : bi l ≠ [] := fun e => h0 (by cases l with | nil => rfl | cons => simp [bi] at e)
    constructor
    · rintro ⟨h1, h2, h3⟩
      have h2' : xdv (bi l) = u := h2
      obtain ⟨e1, _⟩ := xdec_of (bi l) hb0 h1 (fun hl b r e hb => hz ⟨by rw [bi_len] at hl; exact hl, by rw [e, hb]; rfl⟩)
      unfold xnum
      rw [← h2', if_pos ⟨e1, by omega⟩]
    · intro h
      obtain ⟨e1, e2⟩ := xnum_some h
      refine ⟨?_, ?_, by omega⟩
      · rw [e1]; exact xdec_digit u
      · rw [e1]; exact xdv_dec u
/-- Three digits of a byte. -/
theorem three_ok (a b c : UInt8) (u : Nat) : parseUintB 8 [a, b, c] = .ok u ↔ (xdig a.toNat = true ∧ xdig b.toNat = true ∧ xdig c.toNat = true ∧ (100 * ((a.toNat : Int) - 48) + 10 * (b.toNat - 48) + (c.toNat - 48) : Int) = u ∧ u ≤ 255) := by
  unfold parseUintB
  rw [if_neg (by simp), pu_ok _ (by decide) _ _ _ (by omega)]
  simp only [bi, List.map_cons, List.map_nil, List.foldl_cons, List.foldl_nil, List.mem_cons, List.not_mem_nil, or_false, forall_eq_or_imp, forall_eq, xdig, Bool.and_eq_true, decide_eq_true_eq]
  constructor
  · rintro ⟨⟨h1, h2, h3⟩, h4, h5⟩
    refine ⟨h1, h2, h3, by omega, by omega⟩
  · rintro ⟨h1, h2, h3, h4, h5⟩
    refine ⟨⟨h1, h2, h3⟩, by omega, by omega⟩
end Go.Proofs.YtfkfjodfjgjbkaaGreatDoor
