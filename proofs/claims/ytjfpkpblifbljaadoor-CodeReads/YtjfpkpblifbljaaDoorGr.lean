/- Texts with their letters great, as the program and as the document make them. -/
import Derived.Test.YtjfpkpblifbljaaDoorStr
import Derived.Deep.QuietTactic
import Derived.BigQuiet
import Derived.Deep.RegionHeld3
namespace Go.Proofs.YtjfpkpblifbljaaDoor
open Go.ChangeShapes Go.WideShapes Go.ChangeAt Go.RowKit
set_option linter.unusedVariables false
set_option linter.unusedSimpArgs false

def uz (z : Int) : Int := if 97 ≤ z ∧ z ≤ 122 then z - 32 else z
theorem uz_bd (z : Int) (h : 0 ≤ z ∧ z ≤ 255) : 0 ≤ uz z ∧ uz z ≤ 255 := by unfold uz; split <;> omega

/-- A block that came out of a text. -/
def Blk2 (w : World) (g : Nat) (zs : List Int) : Prop :=
  w.heap[g]? = some (.cells (zs.map (Value.int .u8)).toArray 5 (zs.length, zs.length + 1)) ∧ ∀ z ∈ zs, 0 ≤ z ∧ z ≤ 255
theorem Blk2.lt {w : World} {g : Nat} {zs : List Int} (h : Blk2 w g zs) : g < w.heap.size := (Array.getElem?_eq_some_iff.1 h.1).1
theorem Blk2.cell {w : World} {g : Nat} {zs : List Int} (h : Blk2 w g zs) (i : Nat) (hi : i < zs.length) : w.cell? ⟨g, i, none⟩ = some (.int .u8 (zs.getD i 0)) := by
  simp [World.cell?, h.1, hi]
theorem Blk2.frozen {w : World} {g : Nat} {zs : List Int} (h : Blk2 w g zs) (i : Nat) (hi : i < zs.length) : w.frozen? ⟨g, i, none⟩ = false := by
  simp [World.frozen?, h.1]; omega
theorem Blk2.rd {w : World} {g : Nat} {zs : List Int} (h : Blk2 w g zs) (n : Nat) : Rd w (some ⟨g, 0, none⟩) (zs.take n) := by
  refine ⟨.inr ⟨g, 0, rfl, h.lt, fun i hi => ?_⟩, fun z hz => h.2 z (List.mem_of_mem_take hz)⟩
  rw [Nat.zero_add, h.cell i (by simp at hi; omega)]
  have : i < n := by simp at hi; omega
  simp [List.getD_eq_getElem?_getD, this]
theorem Blk2.stored {w : World} {g : Nat} {zs : List Int} (h : Blk2 w g zs) (i : Nat) (z : Int) (hz : 0 ≤ z ∧ z ≤ 255) : Blk2 (w.setCell ⟨g, i, none⟩ (.int .u8 z)) g (zs.set i z) := by
  refine ⟨?_, fun x hx => ?_⟩
  · have hg := h.lt
    have h1 := h.1
    have e : w.heap[g] = .cells (zs.map (Value.int .u8)).toArray 5 (zs.length, zs.length + 1) := by
      rw [Array.getElem?_eq_getElem hg] at h1; exact Option.some.inj h1
    simp [World.setCell, hg, Array.getElem_modify, e, List.map_set]
  · rcases List.mem_or_eq_of_mem_set hx with hx | hx
    · exact h.2 x hx
    · subst hx; exact hz
theorem bytesRow_nums (s : ByteArray) (c : Nat) : bytesRow s c = ((nums s ++ List.replicate (c - s.size) 0).map (Value.int .u8)).toArray := by
  apply Array.ext'
  simp [bytesRow, nums]
theorem nums_bds (s : ByteArray) : ∀ z ∈ nums s, 0 ≤ z ∧ z ≤ 255 := by
  intro z hz
  simp only [nums, List.mem_map] at hz
  obtain ⟨b, _, rfl⟩ := hz
  have := b.toNat_lt
  omega

theorem conv_new (s : ByteArray) (w : World) : ∃ zs : List Int, (convert 9 57 (.string s)).run Tryd.prog w = .ok (.slice (some ⟨w.heap.size, 0, none⟩) s.size zs.length) (w.drew.alloc (.cells (zs.map (Value.int .u8)).toArray 5 (zs.length, zs.length + 1))) ∧
    Blk2 (w.drew.alloc (.cells (zs.map (Value.int .u8)).toArray 5 (zs.length, zs.length + 1))) w.heap.size zs ∧ zs.take s.size = nums s ∧ s.size ≤ zs.length := by
  have h := run_bytes_of_string (P := Tryd.prog) w 9 57 5 s Tryd.underlying9 Tryd.underlying57 Tryd.underlying5
  have hge := grownCap_ge w s.size 0 5
  have hl : (nums s ++ List.replicate (grownCap w s.size 0 5 - s.size) 0).length = grownCap w s.size 0 5 := by
    rw [List.length_append, nums_len, List.length_replicate]; omega
  refine ⟨nums s ++ List.replicate (grownCap w s.size 0 5 - s.size) 0, ?_, ⟨heap_alloc_new w.drew _, ?_⟩, ?_, by rw [hl]; exact hge⟩
  · rw [h, bytesRow_nums, hl]
    simp only [List.size_toArray, List.length_map, hl]
  · intro z hz
    simp only [List.mem_append, List.mem_replicate] at hz
    rcases hz with hz | ⟨_, rfl⟩
    · exact nums_bds s z hz
    · omega
  · rw [List.take_append_of_le_length (by rw [nums_len]; exact Nat.le_refl _), List.take_of_length_le (by rw [nums_len]; exact Nat.le_refl _)]

/-- The first k bytes are folded, the others as they were. -/
def FSt (l zs : List Int) (k : Nat) : Prop := l.length ≤ zs.length ∧ ∀ i, i < l.length → zs.getD i 0 = if i < k then uz (l.getD i 0) else l.getD i 0
theorem FSt.done {l zs : List Int} (h : FSt l zs l.length) : zs.take l.length = l.map uz := by
  apply List.ext_getElem
  · simp [h.1]
  · intro i h1 h2
    have hi : i < l.length := by simpa using h2
    have := h.2 i hi
    rw [if_pos hi] at this
    simp [List.getD_eq_getElem?_getD, List.getElem?_eq_getElem hi, List.getElem?_eq_getElem (show i < zs.length by have := h.1; omega)] at this
    simp [this]
theorem FSt.zero {l zs : List Int} (h : zs.take l.length = l) (hl : l.length ≤ zs.length) : FSt l zs 0 := by
  refine ⟨hl, fun i hi => ?_⟩
  rw [if_neg (by omega)]
  conv => rhs; rw [← h]
  simp [List.getD_eq_getElem?_getD, List.getElem?_take, hi]
theorem FSt.same {l zs : List Int} {k : Nat} (h : FSt l zs k) (hf : uz (l.getD k 0) = l.getD k 0) : FSt l zs (k + 1) := by
  refine ⟨h.1, fun i hi => ?_⟩
  rw [h.2 i hi]
  by_cases e : i = k
  · subst e; rw [if_neg (by omega), if_pos (by omega), hf]
  · by_cases e2 : i < k
    · rw [if_pos e2, if_pos (by omega)]
    · rw [if_neg e2, if_neg (by omega)]
theorem FSt.set {l zs : List Int} {k : Nat} (h : FSt l zs k) (hk : k < l.length) : FSt l (zs.set k (uz (l.getD k 0))) (k + 1) := by
  refine ⟨by rw [List.length_set]; exact h.1, fun i hi => ?_⟩
  have hl := h.1
  by_cases e : i = k
  · subst e
    rw [if_pos (by omega)]
    simp [List.getD_eq_getElem?_getD, List.getElem?_set, show i < zs.length by omega]
  · have : (zs.set k (uz (l.getD k 0))).getD i 0 = zs.getD i 0 := by
      simp [List.getD_eq_getElem?_getD, List.getElem?_set, show ¬ k = i by omega]
    rw [this, h.2 i hi]
    by_cases e2 : i < k
    · rw [if_pos e2, if_pos (by omega)]
    · rw [if_neg e2, if_neg (by omega)]

set_option maxRecDepth 100000 in
set_option maxHeartbeats 1000000 in
theorem great_any (s : ByteArray) (w : World) (hs : s.size ≤ 9223372036854775807) :
    Calls Tryd.prog 47 #[.string s] w fun e w' => e = .returned (.string ⟨(txt ((nums s).map uz)).toArray⟩) ∧ Hid (Below w.heap.size w w') := by
  obtain ⟨zs, hc, hb, ht, hl⟩ := conv_new s w
  have H0 : Hid (Blk2 (w.drew.alloc (.cells (zs.map (Value.int .u8)).toArray 5 (zs.length, zs.length + 1))) w.heap.size zs ∧ FSt (nums s) zs 0 ∧ Below w.heap.size w (w.drew.alloc (.cells (zs.map (Value.int .u8)).toArray 5 (zs.length, zs.length + 1)))) := by
    refine ⟨hb, FSt.zero (by rw [nums_len]; exact ht) (by rw [nums_len]; exact hl), (Below.refl _ _).drew.alloc (Nat.le_refl _) _⟩
  have HLn : Hid (zs.length = zs.length) := rfl
  clear hb ht
  go_enter Tryd.func47, Tryd.ntmps47
  generalize hzl : zs.length = C at *
  have HZ : Hid (zs.length = C) := hzl
  clear hzl
  generalize (w.drew.alloc (.cells (zs.map (Value.int .u8)).toArray 5 (C, C + 1))) = W0 at *
  go_wp2_with fail
  go_loopw [10] (fun x wr => ∃ k : Nat, k ≤ s.size ∧ x = .int .i64 k ∧ Hid (∃ ys, ys.length = C ∧ Blk2 wr w.heap.size ys ∧ FSt (nums s) ys k) ∧ Hid (Below w.heap.size w wr)) (fun x _ => s.size - (intOf x).toNat)
  case atStart => exact ⟨0, Nat.zero_le _, rfl, ⟨zs, HZ.out, H0.out.1, H0.out.2.1⟩, H0.out.2.2⟩
  case round =>
    obtain ⟨k, hk, rfl, HW, HB⟩ := hrel
    clear H0 hc
    by_cases hlt : k < s.size
    · have hlt' : (k : Int) < (s.size : Int) := by omega
      obtain ⟨ys, e1, e2, e3⟩ := HW.out
      have hcell := e2.cell k (by omega)
      have hfr := e2.frozen k (by omega)
      have hv := e3.2 k (by rw [nums_len]; exact hlt)
      rw [if_neg (by omega)] at hv
      rw [hv] at hcell
      have hbd := nums_bd s k
      have HY : Hid (ys.length = C ∧ Blk2 wr w.heap.size ys ∧ FSt (nums s) ys k) := ⟨e1, e2, e3⟩
      have HK : Hid (k < (nums s).length) := (show k < _ by rw [nums_len]; exact hlt)
      have HF : Hid (uz ((nums s).getD k 0) = if 97 ≤ (nums s).getD k 0 ∧ (nums s).getD k 0 ≤ 122 then (nums s).getD k 0 - 32 else (nums s).getD k 0) := (show _ = _ from rfl)
      have HS1 : Hid (uz ((nums s).getD k 0) = (nums s).getD k 0 → FSt (nums s) ys (k + 1)) := fun h => e3.same h
      have HS2 : Hid (FSt (nums s) (ys.set k (uz ((nums s).getD k 0))) (k + 1)) := e3.set HK.out
      clear e1 e2 e3 hv
      generalize (nums s).getD k 0 = z at *
      by_cases hu : 97 ≤ z ∧ z ≤ 122
      · have hz1 : uz z = z - 32 := by rw [HF.out, if_pos hu]
        rw [hz1] at HS2
        have HB3 : Hid (Blk2 (wr.setCell ⟨w.heap.size, k, none⟩ (.int .u8 (z - 32))) w.heap.size (ys.set k (z - 32)) ∧ Below w.heap.size w (wr.setCell ⟨w.heap.size, k, none⟩ (.int .u8 (z - 32)))) := ⟨HY.out.2.1.stored k _ (by omega), HB.out.setCell (Nat.le_refl _) _⟩
        clear hz1
        go_wp2
        rw [show z - 97 + 65 = z - 32 by omega]
        refine ⟨⟨k + 1, by omega, by go_num, ⟨_, ?_, HB3.out.1, HS2.out⟩, HB3.out.2⟩, by simp [intOf]; omega⟩
        rw [List.length_set]; exact HY.out.1
      · have hz1 : uz z = z := by rw [HF.out, if_neg hu]
        have HS3 : Hid (FSt (nums s) ys (k + 1)) := HS1.out hz1
        clear hz1 HS1 HS2
        have hor : z < 97 ∨ 122 < z := by omega
        clear HF
        rcases hor with ho | ho
        all_goals
          go_wp2
          exact ⟨⟨k + 1, by omega, by go_num, ⟨ys, HY.out.1, HY.out.2.1, HS3.out⟩, HB.out⟩, by simp [intOf]; omega⟩
    · have hge : (s.size : Int) ≤ (k : Int) := by omega
      obtain ⟨ys, e1, e2, e3⟩ := HW.out
      have hks : k = s.size := by omega
      have hd : ys.take s.size = (nums s).map uz := by
        have := FSt.done (l := nums s) (zs := ys) (by rw [nums_len, ← hks]; exact e3)
        rw [nums_len] at this
        exact this
      have hrd := e2.rd s.size
      rw [hd] at hrd
      have hcv := conv_rd (some ⟨w.heap.size, 0, none⟩) s.size C ((nums s).map uz) wr hrd (by rw [List.length_map, nums_len])
      clear hrd hd e1 e2 e3
      go_wp2
      go_ret
      exact ⟨rfl, HB.out⟩

set_option maxRecDepth 100000 in
set_option maxHeartbeats 1000000 in
theorem rgreat_any (s : ByteArray) (w : World) (hs : s.size ≤ 140737488355000) :
    Calls Tryd.prog 32 #[.string s] w fun e w' => e = .returned (.string ⟨(txt ((nums s).map uz)).toArray⟩) ∧ Hid (Below w.heap.size w w') := by
  go_enter Tryd.func32, Tryd.ntmps32
  go_wp2_with fail
  go_loopw [3, 4] (fun v x wr => ∃ k : Nat, k ≤ s.size ∧ x = .int .i64 k ∧ Hid (∃ ys, Own w.heap.size wr v k ys ∧ ys.take k = ((nums s).take k).map uz) ∧ Hid (Below w.heap.size w wr)) (fun _ x _ => s.size - (intOf x).toNat)
  case atStart => exact ⟨0, Nat.zero_le _, rfl, ⟨[], .inl ⟨rfl, rfl, rfl⟩, rfl⟩, Below.refl _ _⟩
  case round =>
    obtain ⟨k, hk, rfl, HW, HB⟩ := hrel
    by_cases hlt : k < s.size
    · have hlt' : (k : Int) < (s.size : Int) := by omega
      have hbd := nums_bd s k
      have HT : Hid ((nums s).take (k + 1) = (nums s).take k ++ [(nums s).getD k 0]) := take_snoc _ _ (by rw [nums_len]; exact hlt)
      rw [nums_at s k hlt] at hbd HT
      obtain ⟨ys, hO, hT⟩ := HW.out
      by_cases hu : 97 ≤ (s[k].toNat : Int) ∧ (s[k].toNat : Int) ≤ 122
      · have HZ : Hid (uz (s[k].toNat : Int) = (s[k].toNat : Int) - 32) := by show _ = _; unfold uz; rw [if_pos hu]
        have hnb : Below wr.heap.size wr (wr.alloc (.cells #[.int .u8 ((s[k].toNat : Int) - 32)] 5)) := (Below.refl _ _).alloc (Nat.le_refl _) _
        have HO2 : Hid (Own w.heap.size (wr.alloc (.cells #[.int .u8 ((s[k].toNat : Int) - 32)] 5)) u3 k ys ∧ ys.take k = ((nums s).take k).map uz) := ⟨hO.below hnb, hT⟩
        have HR2 : Hid (Rd (wr.alloc (.cells #[.int .u8 ((s[k].toNat : Int) - 32)] 5)) (some ⟨wr.heap.size, 0, none⟩) [(s[k].toNat : Int) - 32]) := new_rd wr _ (by omega)
        have HNB : Hid (Below wr.heap.size wr (wr.alloc (.cells #[.int .u8 ((s[k].toNat : Int) - 32)] 5))) := hnb
        clear hO hT hnb
        go_wp2_with (at_builtin; refine wpList_append_blk _ rfl _ _ rfl w.heap.size _ k ys rfl HO2.out.1 (some ⟨wr.heap.size, 0, none⟩) 1 1 [(s[k].toNat : Int) - 32] rfl HR2.out rfl (by simp) (by omega) (Nat.le_trans HB.out.size HNB.out.size) ?_; intro v' w' ys' hO' hT' hG')
        have hrow := HO2.out.1.lt
        refine ⟨⟨k + 1, by omega, by go_num, ⟨ys', hO'.out, ?_⟩, ?_⟩, by simp [intOf]; omega⟩
        · rw [hT'.out, HO2.out.2, HT.out, List.map_append, List.map_singleton, HZ.out]
        · exact (HB.out.trans (HNB.out.mono HB.out.size)).grown hG' (Nat.le_trans HB.out.size HNB.out.size) hrow
      · have HZ : Hid (uz (s[k].toNat : Int) = (s[k].toNat : Int)) := by show _ = _; unfold uz; rw [if_neg hu]
        have hnb : Below wr.heap.size wr (wr.alloc (.cells #[.int .u8 (s[k].toNat : Int)] 5)) := (Below.refl _ _).alloc (Nat.le_refl _) _
        have HO2 : Hid (Own w.heap.size (wr.alloc (.cells #[.int .u8 (s[k].toNat : Int)] 5)) u3 k ys ∧ ys.take k = ((nums s).take k).map uz) := ⟨hO.below hnb, hT⟩
        have HR2 : Hid (Rd (wr.alloc (.cells #[.int .u8 (s[k].toNat : Int)] 5)) (some ⟨wr.heap.size, 0, none⟩) [(s[k].toNat : Int)]) := new_rd wr _ (by omega)
        have HNB : Hid (Below wr.heap.size wr (wr.alloc (.cells #[.int .u8 (s[k].toNat : Int)] 5))) := hnb
        clear hO hT hnb
        have hor : (s[k].toNat : Int) < 97 ∨ 122 < (s[k].toNat : Int) := by omega
        clear hu
        rcases hor with ho | ho
        all_goals
          go_wp2_with (at_builtin; refine wpList_append_blk _ rfl _ _ rfl w.heap.size _ k ys rfl HO2.out.1 (some ⟨wr.heap.size, 0, none⟩) 1 1 [(s[k].toNat : Int)] rfl HR2.out rfl (by simp) (by omega) (Nat.le_trans HB.out.size HNB.out.size) ?_; intro v' w' ys' hO' hT' hG')
          have hrow := HO2.out.1.lt
          refine ⟨⟨k + 1, by omega, by go_num, ⟨ys', hO'.out, ?_⟩, ?_⟩, by simp [intOf]; omega⟩
          · rw [hT'.out, HO2.out.2, HT.out, List.map_append, List.map_singleton, HZ.out]
          · exact (HB.out.trans (HNB.out.mono HB.out.size)).grown hG' (Nat.le_trans HB.out.size HNB.out.size) hrow
    · obtain ⟨ys, hO, hT⟩ := HW.out
      have ek : (nums s).take k = nums s := List.take_of_length_le (by rw [nums_len]; omega)
      rw [ek] at hT
      obtain ⟨ao, rfl, hoa⟩ := hO.addr
      have hrd := hoa.rdTake k
      rw [hT] at hrd
      have hcv := conv_rd ao k ys.length ((nums s).map uz) wr hrd (by rw [List.length_map, nums_len]; omega)
      have hge : (s.size : Int) ≤ (k : Int) := by omega
      clear hO hT hoa hrd ek
      generalize ys.length = yl at *
      go_wp2
      go_ret
      exact ⟨rfl, HB.out⟩

/-- A text of bytes, as numbers: what it was made of. -/
theorem nums_txt (l : List Int) (h : ∀ z ∈ l, 0 ≤ z ∧ z ≤ 255) : nums ⟨(txt l).toArray⟩ = l := by
  unfold nums txt
  simp only [List.map_map]
  conv => rhs; rw [← List.map_id l]
  apply List.map_congr_left
  intro z hz
  have := h z hz
  simp
  omega
theorem txt_nums (s : ByteArray) : (⟨(txt (nums s)).toArray⟩ : ByteArray) = s := by
  have : txt (nums s) = s.data.toList := by
    unfold nums txt
    rw [List.map_map]
    conv => rhs; rw [← List.map_id s.data.toList]
    apply List.map_congr_left
    intro b _
    simp
  rw [this]
end Go.Proofs.YtjfpkpblifbljaaDoor
