/- Lists of bytes that the program itself has made: making, appending, copying, writing, as steps of a walk. -/
import Derived.Test.YtgdkeafjglcgaaaDoorBase
import Derived.Test.YtgdkeafjglcgaaaDoorRows
import Derived.WalkSpells
import Derived.OwnWalk
import Derived.Laws.CopyOwn
namespace Go.Proofs.YtgdkeafjglcgaaaDoor
open Go.ChangeShapes Go.WideShapes Go.ChangeAt Go.RowKit
set_option linter.unusedVariables false
set_option linter.unusedSimpArgs false




theorem Tryd.info5 : (Tryd.prog.info? 5).map (fun i => (i.zero, i.size, i.bytes)) = some (some (.int .u8 0), 1, 1) := by kernel_rfl
/-- A list of bytes in a block of its own, from the block B on: n of them, the block's whole cells are zs. -/
def Own (B : Nat) (w : World) (v : Value) (n : Nat) (zs : List Int) : Prop :=
  (v = .slice none 0 0 ∧ n = 0 ∧ zs = []) ∨
  ∃ g, v = .slice (some ⟨g, 0, none⟩) n zs.length ∧ B ≤ g ∧ Blk w g zs ∧ n ≤ zs.length ∧ zs.length ≤ maxLen
theorem zeros_eq (k : Nat) : Builtin.zeroCells (Value.int .u8 0).cells k = ((List.replicate k (0 : Int)).map (Value.int .u8)).toArray := by
  apply Array.ext
  · simp [Builtin.zeroCells, Value.cells]
  · intro i h1 h2
    simp [Builtin.zeroCells, Value.cells]
    have : i % 1 = 0 := by omega
    simp [this]
theorem made_eq (k : Nat) : madeCells (Value.int .u8 0).cells (k * 1) = ((List.replicate k (0 : Int)).map (Value.int .u8)).toArray := by
  apply Array.ext
  · simp [madeCells, Value.cells]
  · intro i h1 h2
    simp [madeCells, Value.cells]
    have : i % 1 = 0 := by omega
    simp [this]
theorem rd_cells {w : World} {x : Addr} {zs : List Int} (h : Rd w (some x) zs) : ∀ j u, (zs.map (Value.int .u8))[j]? = some u → w.cell? (x.add j) = some u := by
  intro j u hu
  have hj : j < zs.length := by simpa using (List.getElem?_eq_some_iff.1 hu).1
  rcases h.1 with h1 | ⟨b, o, e, _, h2⟩
  · subst h1; simp at hj
  · cases e
    rw [Addr.add_lit, h2 j hj, ← hu]
    simp [hj]
theorem run_append_blk (w : World) (B : Nat) (ty : TypeId) (v : Value) (n : Nat) (zs : List Int) (hown : Own B w v n zs)
    (ao : Option Addr) (m c : Nat) (news : List Int) (hr : Rd w ao news) (hl : news.length = m) (hc : ao = none → c = 0) (hb : n + m ≤ 140737488355328) (hB : B ≤ w.heap.size) :
    ∃ v' w' zs', (Builtin.append_ #[49, 49] ty #[v, .slice ao m c]).run Tryd.prog w = .ok v' w' ∧ Own B w' v' (n + m) zs' ∧ zs'.take (n + m) = zs.take n ++ news ∧ w.grownBy w' v.ownBlock := by
  obtain ⟨i, hi, hz0, hz1, hz2⟩ := info_parts Tryd.info5
  cases ao with
  | none =>
    have hnews : news = [] := by
      rcases hr.1 with h1 | ⟨b, o, h, _⟩
      · exact h1
      · cases h
    subst hnews; subst hl
    rw [hc rfl]
    refine ⟨v, w, zs, ?_, hown, by simp, World.grownBy.refl _ _⟩
    rcases hown with ⟨rfl, rfl, rfl⟩ | ⟨g, rfl, hBg, hblk, hn, hm⟩
    · simp [Builtin.append_, run_underlying Tryd.underlying49, sizeOf, typeInfo, hi, Builtin.lenOf, Builtin.firstCells]
    · simp [Builtin.append_, run_underlying Tryd.underlying49, sizeOf, typeInfo, hi, Builtin.lenOf, Builtin.firstCells, hn, storeCells]
  | some a =>
    have hcs := rd_cells hr
    have hml : n + m ≤ maxLen := by simp only [maxLen]; omega
    have hlm : (news.map (Value.int .u8)).length = m * i.size := by rw [hz1]; simp [hl]
    have grown : ∀ (old : Nat), old < n + m → ∀ (row : Option Nat), (n = 0 ∨ n ≤ zs.length) →
        ∃ zs' : List Int, (.cells (((zs.take n).map (Value.int .u8)).toArray ++ (news.map (Value.int .u8)).toArray ++ Builtin.zeroCells (Value.int .u8 0).cells (grownCap w (n + m) old 5 - (n + m))) 5 : Obj) = .cells (zs'.map (Value.int .u8)).toArray 5 (0, 0) ∧
        zs'.length = grownCap w (n + m) old 5 ∧ zs'.take (n + m) = zs.take n ++ news ∧ (∀ z ∈ zs', 0 ≤ z ∧ z ≤ 255) := by
      intro old ho row hn
      have hge := grownCap_ge w (n + m) old 5
      have hzb : ∀ z ∈ zs, 0 ≤ z ∧ z ≤ 255 := by
        rcases hown with ⟨_, _, rfl⟩ | ⟨g, _, _, hblk, _⟩
        · intro z hz; cases hz
        · exact hblk.2
      have htl : (zs.take n).length = n := by
        rcases hn with rfl | hn
        · simp
        · simp; omega
      refine ⟨zs.take n ++ news ++ List.replicate (grownCap w (n + m) old 5 - (n + m)) 0, ?_, ?_, ?_, ?_⟩
      · rw [zeros_eq]; simp
      · simp only [List.length_append, htl, hl, List.length_replicate]; omega
      · rw [List.take_append_of_le_length (by simp only [List.length_append, htl, hl]; omega)]
        exact List.take_of_length_le (by simp only [List.length_append, htl, hl]; omega)
      · intro z hz
        simp only [List.mem_append, List.mem_replicate] at hz
        rcases hz with (hz | hz) | ⟨_, rfl⟩
        · exact hzb z (List.mem_of_mem_take hz)
        · exact hr.2 z hz
        · omega
    have fresh : ∀ (old : Nat), old < n + m → ∀ zs' : List Int, zs'.length = grownCap w (n + m) old 5 → (∀ z ∈ zs', 0 ≤ z ∧ z ≤ 255) →
        Own B (w.drew.alloc (.cells (zs'.map (Value.int .u8)).toArray 5 (0, 0))) (.slice (some ⟨w.heap.size, 0, none⟩) (n + m) (grownCap w (n + m) old 5)) (n + m) zs' := by
      intro old ho zs' hzl hzb
      refine .inr ⟨w.heap.size, by rw [hzl], hB, ⟨heap_alloc_new w.drew _, hzb⟩, ?_, ?_⟩
      · rw [hzl]; exact grownCap_ge w (n + m) old 5
      · rw [hzl]; exact grownCap_le_maxLen w (n + m) old 5 hml
    rcases hown with ⟨rfl, rfl, rfl⟩ | ⟨g, rfl, hBg, hblk, hn, hm⟩
    · by_cases hm0 : m = 0
      · subst hm0
        have hnews : news = [] := List.eq_nil_of_length_eq_zero hl
        subst hnews
        refine ⟨.slice none 0 0, w, [], ?_, .inl ⟨rfl, rfl, rfl⟩, by simp, World.grownBy.refl _ _⟩
        simp [Builtin.append_, run_underlying Tryd.underlying49, sizeOf, typeInfo, hi, Builtin.lenOf, Builtin.firstCells, loadCells, loadCellsFrom]
      · have hr' := run_append_nil (P := Tryd.prog) w 49 ty 5 i _ Tryd.underlying49 hi hz0 a m c (news.map (Value.int .u8)) hlm hcs (by omega) (by omega) (by rw [hz2]; omega)
        obtain ⟨zs', e1, e2, e3, e4⟩ := grown 0 (by omega) none (.inl rfl)
        have hf := fresh 0 (by omega) zs' e2 e4
        simp only [Nat.zero_add, List.take_nil, List.map_nil, List.nil_append, Array.empty_append, List.take_zero] at e1 e2 e3 hf ⊢
        rw [e1] at hr'
        exact ⟨_, _, zs', hr', hf, e3, ⟨rfl, rfl, rfl, by simp, fun k hk _ => Below.heap_alloc w.drew _ k hk⟩⟩
    · by_cases hroom : n + m ≤ zs.length
      · have hr' := run_append_room (P := Tryd.prog) w 49 ty 5 i Tryd.underlying49 hi g n zs.length _ hblk.1 a m c (news.map (Value.int .u8)) hlm hcs (ints_oneCell _ _) hroom (by rw [hz1]; simp [hl]; omega)
        have e : (((zs.map (Value.int .u8)).toArray.toList.take (n * i.size)) ++ news.map (Value.int .u8) ++ (zs.map (Value.int .u8)).toArray.toList.drop (n * i.size + (news.map (Value.int .u8)).length)).toArray = ((zs.take n ++ news ++ zs.drop (n + m)).map (Value.int .u8)).toArray := by
          rw [hz1]; simp [hl]
        rw [e] at hr'
        have hlen : (zs.take n ++ news ++ zs.drop (n + m)).length = zs.length := by simp [hl]; omega
        refine ⟨_, _, zs.take n ++ news ++ zs.drop (n + m), hr', .inr ⟨g, by rw [hlen], hBg, ⟨setRow_heap w g _ _ 5 _ hblk.1, ?_⟩, by rw [hlen]; exact hroom, by rw [hlen]; exact hm⟩, ?_,
          ⟨rfl, rfl, rfl, by simp, fun k _ hk => setRow_other w g k _ (fun e => hk (by simp [Value.ownBlock, e]))⟩⟩
        · intro z hz
          simp only [List.mem_append] at hz
          rcases hz with (hz | hz) | hz
          · exact hblk.2 z (List.mem_of_mem_take hz)
          · exact hr.2 z hz
          · exact hblk.2 z (List.mem_of_mem_drop hz)
        · rw [List.take_append_of_le_length (by simp [hl]; omega)]
          exact List.take_of_length_le (by simp [hl]; omega)
      · have holds : ∀ j u, ((zs.take n).map (Value.int .u8))[j]? = some u → w.cell? ((⟨g, 0, none⟩ : Addr).add j) = some u := rd_cells (hblk.rd n)
        have hr' := run_append_grow (P := Tryd.prog) w 49 ty 5 i _ Tryd.underlying49 hi hz0 ⟨g, 0, none⟩ n zs.length ((zs.take n).map (Value.int .u8)) (by rw [hz1]; simp; omega) holds a m c (news.map (Value.int .u8)) hlm hcs (by omega) (by simp only [maxLen] at hml; omega) (growslice_fits (by omega) (by rw [hz2]; omega))
        obtain ⟨zs', e1, e2, e3, e4⟩ := grown zs.length (by omega) none (.inr hn)
        have hf := fresh zs.length (by omega) zs' e2 e4
        rw [e1] at hr'
        exact ⟨_, _, zs', hr', hf, e3, ⟨rfl, rfl, rfl, by simp, fun k hk _ => Below.heap_alloc w.drew _ k hk⟩⟩
theorem wpList_append_blk (w : World) {ops : Array Oper} {rest : List Oper} {o : Oper} {a : Act} {Q : Exit → Act → World → Prop} (hgd : o.guard = none) (s x : Operand)
    (ho : o.op = .call { callee := .builtin .append, args := #[s, x], argTypes := #[49, 49] }) (B : Nat) (v : Value) (n : Nat) (zs : List Int) (hs : a.eval s = v) (hown : Own B w v n zs)
    (ao : Option Addr) (m c : Nat) (news : List Int) (hx : a.eval x = .slice ao m c) (hr : Rd w ao news) (hl : news.length = m) (hc : ao = none → c = 0) (hb : n + m ≤ 140737488355328) (hB : B ≤ w.heap.size)
    (h : ∀ v' w' zs', Hid (Own B w' v' (n + m) zs') → Hid (zs'.take (n + m) = zs.take n ++ news) → w.grownBy w' v.ownBlock → wpList Tryd.prog ops Q rest (a.put o.dst v') w') : wpList Tryd.prog ops Q (o :: rest) a w := by
  refine wpList_plain hgd fun K hK => ?_
  obtain ⟨v', w', zs', hrun, h2, h3, h4⟩ := run_append_blk w B o.type v n zs hown ao m c news hr hl hc hb hB
  unfold Oper.wp execOp
  simp only [ho, resolve, invoke, builtin, Sem.run_bind, Sem.run_pure, Result.andThen_ok, List.map_toArray, List.map_cons, List.map_nil, hs, hx, hrun]
  exact hK _ _ (h v' w' zs' h2 h3 h4)
/-- 'make([]byte, n)' and 'make([]byte, l, n)'. -/
theorem wpList_make_blk (w : World) {ops : Array Oper} {rest : List Oper} {o : Oper} {a : Act} {Q : Exit → Act → World → Prop} (hgd : o.guard = none) (s x : Operand)
    (ho : o.op = .makeSlice 49 s x) (l n : Nat) (L C : Int) (hs : a.eval s = .int .i64 L) (hx : a.eval x = .int .i64 C) (hL : L = (l : Int)) (hC : C = (n : Int)) (hln : l ≤ n) (hn : n ≤ 281474976710656)
    (h : wpList Tryd.prog ops Q rest (a.put o.dst (.slice (some ⟨w.heap.size, 0, none⟩) l n)) (w.alloc (.cells ((List.replicate n (0 : Int)).map (Value.int .u8)).toArray 5))) : wpList Tryd.prog ops Q (o :: rest) a w := by
  refine wpList_plain hgd fun K hK => ?_
  obtain ⟨i, hi, hz0, hz1, hz2⟩ := info_parts Tryd.info5
  have hrun := run_make (P := Tryd.prog) w 49 5 i _ Tryd.underlying49 hi hz0 .i64 .i64 (l : Int) (n : Int) (by omega) (by omega) (by rw [hz2]; omega) (by omega)
  rw [hz1] at hrun
  simp only [Int.toNat_natCast, made_eq] at hrun
  subst hL
  subst hC
  unfold Oper.wp
  simp only [execOp, ho, hs, hx, Sem.run_bind, hrun, Result.andThen]
  exact hK _ _ h
theorem run_copy_blk (w : World) (ty : TypeId) (g : Nat) (n c : Nat) (zs : List Int) (hblk : Blk w g zs) (ao : Option Addr) (m d : Nat) (news : List Int) (hr : Rd w ao news) (hl : news.length = m) (hmn : m ≤ n) (hn : n ≤ zs.length) (hd : ao = none → d = 0) :
    (Builtin.copy_ #[49, 49] ty #[.slice (some ⟨g, 0, none⟩) n c, .slice ao m d]).run Tryd.prog w = .ok (goInt m) (w.setRow g ((news ++ zs.drop m).map (Value.int .u8)).toArray) := by
  by_cases hm : m = 0
  · subst hm
    have hnews : news = [] := List.eq_nil_of_length_eq_zero hl
    subst hnews
    have := run_copy_none (P := Tryd.prog) w 49 49 ty 5 (some ⟨g, 0, none⟩) ao n c 0 d Tryd.underlying49 (by kernel_rfl) (by simp)
    rw [this]
    simp
    rw [setRow_self w g _ 5 (0, 0) (by simpa using hblk.1)]
  · cases ao with
    | none =>
      rcases hr.1 with h1 | ⟨b, o, h, _⟩
      · subst h1; simp at hl; omega
      · cases h
    | some x =>
      have := run_copy_row (P := Tryd.prog) w 49 49 ty 5 g 0 n c x m d _ 5 (news.map (Value.int .u8)) Tryd.underlying49 (by kernel_rfl) hblk.1 (by simp [hl, Nat.min_eq_left hmn]) (rd_cells hr) (by simp [hl]; omega) (ints_oneCell _ _)
      rw [this]
      simp [hl]
theorem wpList_copy_blk (w : World) {ops : Array Oper} {rest : List Oper} {o : Oper} {a : Act} {Q : Exit → Act → World → Prop} (hgd : o.guard = none) (s x : Operand)
    (ho : o.op = .call { callee := .builtin .copy, args := #[s, x], argTypes := #[49, 49] }) (g : Nat) (n c : Nat) (zs : List Int) (hs : a.eval s = .slice (some ⟨g, 0, none⟩) n c) (hblk : Blk w g zs)
    (ao : Option Addr) (m d : Nat) (news : List Int) (hx : a.eval x = .slice ao m d) (hr : Rd w ao news) (hl : news.length = m) (hmn : m ≤ n) (hn : n ≤ zs.length) (hd : ao = none → d = 0)
    (h : ∀ w', Hid (Blk w' g (news ++ zs.drop m)) → w.grownBy w' (some g) → Hid (w'.heap.size = w.heap.size) → wpList Tryd.prog ops Q rest (a.put o.dst (goInt m)) w') : wpList Tryd.prog ops Q (o :: rest) a w := by
  refine wpList_plain hgd fun K hK => ?_
  have hrun := run_copy_blk w o.type g n c zs hblk ao m d news hr hl hmn hn hd
  unfold Oper.wp execOp
  simp only [ho, resolve, invoke, builtin, Sem.run_bind, Sem.run_pure, Result.andThen_ok, List.map_toArray, List.map_cons, List.map_nil, hs, hx, hrun]
  refine hK _ _ (h _ ⟨setRow_heap w g _ _ 5 _ hblk.1, ?_⟩ ⟨rfl, rfl, rfl, by simp [World.setRow], fun k _ hk => setRow_other w g k _ (fun e => hk (by rw [e]))⟩ (show _ = _ by simp [World.setRow]))
  intro z hz
  simp only [List.mem_append] at hz
  rcases hz with hz | hz
  · exact hr.2 z hz
  · exact hblk.2 z (List.mem_of_mem_drop hz)
/-- A store of a byte into a block. -/
theorem Blk.stored {w : World} {g : Nat} {zs : List Int} (h : Blk w g zs) (i : Nat) (z : Int) (hz : 0 ≤ z ∧ z ≤ 255) : Blk (w.setCell ⟨g, i, none⟩ (.int .u8 z)) g (zs.set i z) := by
  refine ⟨?_, fun x hx => ?_⟩
  · have hg := h.lt
    have h1 := h.1
    have e : w.heap[g] = .cells (zs.map (Value.int .u8)).toArray 5 (0, 0) := by
      rw [Array.getElem?_eq_getElem hg] at h1; exact Option.some.inj h1
    simp [World.setCell, hg, Array.getElem_modify, e, List.map_set]
  · rcases List.mem_or_eq_of_mem_set hx with hx | hx
    · exact h.2 x hx
    · subst hx; exact hz
end Go.Proofs.YtgdkeafjglcgaaaDoor
