/- Texts laid together: Fa Fb Fc Fd Fe Ff Oca Ocb Occ Ocd. -/
import Derived.Test.YtfkfjodfjgjbkaaGreatDoorWqf
import Derived.LaidEqlPtr
import Derived.WalkSpells
import Derived.Deep.RegionHeld3
/- The document's own answer: which fields a type has; the greatest number; a tag. -/
namespace Go.Proofs.YtfkfjodfjgjbkaaGreatDoor
open Go.ChangeShapes Go.WideShapes Go.ChangeAt Go.RowKit
set_option linter.unusedVariables false
set_option linter.unusedSimpArgs false




/-- A shape's value. -/
abbrev Shp.val (s : Shp) : Value := .agg #[.int .i64 s.nn, .int .i64 s.nu, .int .i64 s.nt, .int .i64 s.nr, .int .i64 s.wd]
set_option maxRecDepth 100000 in
set_option maxHeartbeats 2000000 in
theorem of_any (t : Nat) (w : World) : Calls Tryz.prog 71 #[.int .u16 t] w fun e w' => e = .returned (.tuple #[.agg #[.int .i64 (shp t).nn, .int .i64 (shp t).nu, .int .i64 (shp t).nt, .int .i64 (shp t).nr, .int .i64 (shp t).wd], .bool (mayT t)]) ∧ Hid (Below w.heap.size w w') := by
  rcases shp_cases t with ⟨ht, e⟩ | ⟨ht, e⟩ | ⟨ht, e⟩ | ⟨ht, e⟩ | ⟨ht, e⟩ | ⟨ht, e⟩ | ⟨ht, e⟩ | ⟨ht, e⟩ | ⟨ht, e⟩
  · subst ht; rw [e]; clear e
    go_enter Tryz.func71, Tryz.ntmps71
    go_wp2_with fail
    exact bodyPost_ret (v := .tuple #[.agg #[.int .i64 0, .int .i64 0, .int .i64 0, .int .i64 4, .int .i64 0], .bool true]) (by simp [results, Tryz.results71, go_sem]) rfl ⟨rfl, (Below.refl _ _).alloc (Nat.le_refl _) _⟩
  · subst ht; rw [e]; clear e
    go_enter Tryz.func71, Tryz.ntmps71
    go_wp2_with fail
    exact bodyPost_ret (v := .tuple #[.agg #[.int .i64 0, .int .i64 0, .int .i64 0, .int .i64 16, .int .i64 0], .bool true]) (by simp [results, Tryz.results71, go_sem]) rfl ⟨rfl, (Below.refl _ _).alloc (Nat.le_refl _) _⟩
  · rw [e]; clear e
    rcases ht with rfl | rfl | rfl
    all_goals
      go_enter Tryz.func71, Tryz.ntmps71
      go_wp2_with fail
      exact bodyPost_ret (v := .tuple #[.agg #[.int .i64 1, .int .i64 0, .int .i64 0, .int .i64 0, .int .i64 0], .bool true]) (by simp [results, Tryz.results71, go_sem]) rfl ⟨rfl, (Below.refl _ _).alloc (Nat.le_refl _) _⟩
  · subst ht; rw [e]; clear e
    go_enter Tryz.func71, Tryz.ntmps71
    go_wp2_with fail
    exact bodyPost_ret (v := .tuple #[.agg #[.int .i64 2, .int .i64 5, .int .i64 0, .int .i64 0, .int .i64 4], .bool true]) (by simp [results, Tryz.results71, go_sem]) rfl ⟨rfl, (Below.refl _ _).alloc (Nat.le_refl _) _⟩
  · subst ht; rw [e]; clear e
    go_enter Tryz.func71, Tryz.ntmps71
    go_wp2_with fail
    exact bodyPost_ret (v := .tuple #[.agg #[.int .i64 1, .int .i64 1, .int .i64 0, .int .i64 0, .int .i64 2], .bool true]) (by simp [results, Tryz.results71, go_sem]) rfl ⟨rfl, (Below.refl _ _).alloc (Nat.le_refl _) _⟩
  · subst ht; rw [e]; clear e
    go_enter Tryz.func71, Tryz.ntmps71
    go_wp2_with fail
    exact bodyPost_ret (v := .tuple #[.agg #[.int .i64 1, .int .i64 3, .int .i64 0, .int .i64 0, .int .i64 2], .bool true]) (by simp [results, Tryz.results71, go_sem]) rfl ⟨rfl, (Below.refl _ _).alloc (Nat.le_refl _) _⟩
  · subst ht; rw [e]; clear e
    go_enter Tryz.func71, Tryz.ntmps71
    go_wp2_with fail
    exact bodyPost_ret (v := .tuple #[.agg #[.int .i64 0, .int .i64 0, .int .i64 (-1), .int .i64 0, .int .i64 0], .bool true]) (by simp [results, Tryz.results71, go_sem]) rfl ⟨rfl, (Below.refl _ _).alloc (Nat.le_refl _) _⟩
  · subst ht; rw [e]; clear e
    go_enter Tryz.func71, Tryz.ntmps71
    go_wp2_with fail
    exact bodyPost_ret (v := .tuple #[.agg #[.int .i64 0, .int .i64 1, .int .i64 2, .int .i64 0, .int .i64 1], .bool true]) (by simp [results, Tryz.results71, go_sem]) rfl ⟨rfl, (Below.refl _ _).alloc (Nat.le_refl _) _⟩
  · rw [e]; clear e
    obtain ⟨h1, h2, h3, h4, h5, h6, h7, h8, h9, h10⟩ := ht
    have q1 : ((t : Int) == 1) = false := by simp; omega
    have q2 : ((t : Int) == 28) = false := by simp; omega
    have q3 : ((t : Int) == 2) = false := by simp; omega
    have q4 : ((t : Int) == 5) = false := by simp; omega
    have q5 : ((t : Int) == 12) = false := by simp; omega
    have q6 : ((t : Int) == 6) = false := by simp; omega
    have q7 : ((t : Int) == 15) = false := by simp; omega
    have q8 : ((t : Int) == 33) = false := by simp; omega
    have q9 : ((t : Int) == 16) = false := by simp; omega
    have q10 : ((t : Int) == 257) = false := by simp; omega
    clear h1 h2 h3 h4 h5 h6 h7 h8 h9 h10
    by_cases hz : t = 0
    · subst hz
      go_enter Tryz.func71, Tryz.ntmps71
      go_wp2_with fail
      exact bodyPost_ret (v := .tuple #[.agg #[.int .i64 0, .int .i64 0, .int .i64 0, .int .i64 (-1), .int .i64 0], .bool false]) (by simp [results, Tryz.results71, go_sem]) rfl ⟨rfl, (Below.refl _ _).alloc (Nat.le_refl _) _⟩
    · have qz : ((t : Int) != 0) = true := by simp; omega
      by_cases ha : (t : Int) < 128
      · have hm : mayT t = true := by simp [mayT]; omega
        rw [hm]
        clear hm
        go_enter Tryz.func71, Tryz.ntmps71
        go_wp2_with fail
        exact bodyPost_ret (v := .tuple #[.agg #[.int .i64 0, .int .i64 0, .int .i64 0, .int .i64 (-1), .int .i64 0], .bool true]) (by simp [results, Tryz.results71, go_sem]) rfl ⟨rfl, (Below.refl _ _).alloc (Nat.le_refl _) _⟩
      · by_cases hb : (255 : Int) < (t : Int)
        · have hm : mayT t = true := by simp [mayT]; omega
          rw [hm]
          clear hm
          go_enter Tryz.func71, Tryz.ntmps71
          go_wp2_with fail
          exact bodyPost_ret (v := .tuple #[.agg #[.int .i64 0, .int .i64 0, .int .i64 0, .int .i64 (-1), .int .i64 0], .bool true]) (by simp [results, Tryz.results71, go_sem]) rfl ⟨rfl, (Below.refl _ _).alloc (Nat.le_refl _) _⟩
        · have hm : mayT t = false := by simp [mayT]; omega
          rw [hm]
          clear hm
          go_enter Tryz.func71, Tryz.ntmps71
          go_wp2_with fail
          exact bodyPost_ret (v := .tuple #[.agg #[.int .i64 0, .int .i64 0, .int .i64 0, .int .i64 (-1), .int .i64 0], .bool false]) (by simp [results, Tryz.results71, go_sem]) rfl ⟨rfl, (Below.refl _ _).alloc (Nat.le_refl _) _⟩
set_option maxRecDepth 100000 in
set_option maxHeartbeats 1000000 in
theorem most_any (wd : Nat) (w : World) : Calls Tryz.prog 104 #[.int .i64 wd] w fun e w' => e = .returned (.int .u32 (most wd)) ∧ w' = w := by
  by_cases h1 : wd = 1
  · subst h1
    go_enter Tryz.func104, Tryz.ntmps104
    go_wp2_with fail
    go_ret
    exact ⟨rfl, rfl⟩
  · by_cases h2 : wd = 2
    · subst h2
      go_enter Tryz.func104, Tryz.ntmps104
      go_wp2_with fail
      go_ret
      exact ⟨rfl, rfl⟩
    · have q1 : ((wd : Int) == 1) = false := by simp; omega
      have q2 : ((wd : Int) == 2) = false := by simp; omega
      have hm : most wd = 4294967295 := by unfold most; rw [if_neg h1, if_neg h2]
      rw [hm]
      clear hm
      go_enter Tryz.func104, Tryz.ntmps104
      go_wp2_with fail
      go_ret
      exact ⟨rfl, rfl⟩
set_option maxRecDepth 100000 in
set_option maxHeartbeats 2000000 in
theorem tag_any (s : ByteArray) (hs : s.size ≤ 9223372036854775807) (w : World) : Calls Tryz.prog 105 #[.string s] w fun e w' => e = .returned (.bool (tagB s)) ∧ w' = w := by
  by_cases h1 : s.size < 1
  · have HE : Hid (tagB s = false) := by show _ = _; simp [tagB]; omega
    have h1' : (s.size : Int) < 1 := by omega
    go_enter Tryz.func105, Tryz.ntmps105
    go_wp2_with fail
    go_ret
    exact ⟨by rw [HE.out]; rfl, rfl⟩
  · by_cases h2 : 15 < s.size
    · have HE : Hid (tagB s = false) := by show _ = _; simp [tagB]; omega
      have h1' : ¬ (s.size : Int) < 1 := by omega
      have h2' : (15 : Int) < (s.size : Int) := by omega
      go_enter Tryz.func105, Tryz.ntmps105
      go_wp2_with fail
      go_ret
      exact ⟨by rw [HE.out]; rfl, rfl⟩
    · have h1' : ¬ (s.size : Int) < 1 := by omega
      have h2' : ¬ (15 : Int) < (s.size : Int) := by omega
      have HT : Hid (tagB s = (nums s).all alnum) := by show _ = _; simp [tagB]; intro _; omega
      go_enter Tryz.func105, Tryz.ntmps105
      go_wp2_with fail
      go_loopw [3] (fun v wr => wr = w ∧ ∃ k : Nat, k ≤ s.size ∧ v = .int .i64 (k : Int) ∧ Hid (∀ z ∈ (nums s).take k, alnum z = true)) (fun v _ => s.size - (intOf v).toNat)
      case atStart => exact ⟨rfl, 0, Nat.zero_le _, rfl, by intro y hy; simp at hy⟩
      case round =>
        obtain ⟨hwr, k, hk, rfl, HF⟩ := hrel
        subst hwr
        by_cases hlt : k < s.size
        · have hlt' : (k : Int) < (s.size : Int) := by omega
          have hbd := nums_bd s k
          have hki : k < (nums s).length := by rw [nums_len]; exact hlt
          have hat := nums_at s k hlt
          rw [hat] at hbd
          have HA : Hid (∃ h : k < (nums s).length, (nums s)[k] = (s[k].toNat : Int)) := by
            refine ⟨hki, ?_⟩
            have : (nums s).getD k 0 = (nums s)[k] := by simp [List.getD_eq_getElem?_getD, hki]
            rw [← this, hat]
          clear hat hki
          obtain ⟨c, hc⟩ : ∃ c : Int, (s[k].toNat : Int) = c := ⟨_, rfl⟩
          rw [hc] at hbd HA
          cases hal : alnum c with
          | true =>
            have HF2 : Hid (∀ z ∈ (nums s).take (k + 1), alnum z = true) := by
              intro z hz
              obtain ⟨hin, hav⟩ := HA.out
              rw [List.take_succ_eq_append_getElem hin] at hz
              simp only [List.mem_append, List.mem_singleton] at hz
              rcases hz with hz | hz
              · exact HF.out z hz
              · subst hz; rw [hav]; exact hal
            have hcs : (97 ≤ c ∧ c ≤ 122) ∨ (c < 97 ∧ 65 ≤ c ∧ c ≤ 90) ∨ (c < 97 ∧ c < 65 ∧ 48 ≤ c ∧ c ≤ 57) := by
              simp [alnum] at hal; omega
            clear HF hal
            rcases hcs with ⟨d1, d2⟩ | ⟨d0, d1, d2⟩ | ⟨d0, d01, d1, d2⟩
            all_goals
              go_wp2_with fail
              exact ⟨⟨by first | rfl | trivial, k + 1, by omega, by go_num, HF2⟩, by simp [intOf]; omega⟩
          | false =>
            have HE : Hid (tagB s = false) := by
              show _ = _
              rw [HT.out, ← Bool.not_eq_true]
              intro hall
              obtain ⟨hin, hav⟩ := HA.out
              have := List.all_eq_true.1 hall (nums s)[k] (List.getElem_mem hin)
              rw [hav, hal] at this
              cases this
            have hcs : (c < 97 ∧ c < 65 ∧ c < 48) ∨ (c < 97 ∧ c < 65 ∧ 57 < c) ∨ (c < 97 ∧ 90 < c) ∨ 122 < c := by
              simp [alnum] at hal; omega
            clear HF hal HT
            rcases hcs with ⟨d0, d1, d2⟩ | ⟨d0, d1, d2⟩ | ⟨d0, d1⟩ | d0
            all_goals
              go_wp2_with fail
              go_ret
              exact ⟨by rw [HE.out]; rfl, rfl⟩
        · have hge : ¬ (k : Int) < (s.size : Int) := by omega
          have HE : Hid (tagB s = true) := by
            have := HF.out
            rw [List.take_of_length_le (by rw [nums_len]; omega)] at this
            show _ = _
            rw [HT.out]
            exact List.all_eq_true.2 this
          clear HF HT
          go_wp2_with fail
          go_ret
          exact ⟨by rw [HE.out]; rfl, rfl⟩
end Go.Proofs.YtfkfjodfjgjbkaaGreatDoor
/- The document's own answer: whether fields are as a shape says. -/
namespace Go.Proofs.YtfkfjodfjgjbkaaGreatDoor
open Go.ChangeShapes Go.WideShapes Go.ChangeAt Go.RowKit
set_option linter.unusedVariables false
set_option linter.unusedSimpArgs false




def fitsG (s : Shp) (t : Nat) (d : Dat) : Bool :=
  decide (d.ns.length = s.nn) && decide (d.us.length = s.nu) && (decide (s.nt < 0) || decide ((d.ts.length : Int) = s.nt)) && (decide (0 ≤ s.nt) || decide (d.ts.length ≠ 0)) &&
  (decide (s.nr < 0) || decide ((d.raw.length : Int) = s.nr)) && d.us.all (fun n => decide (n ≤ most s.wd)) && (decide (t ≠ 16) || d.ts.all (fun s => decide (s.size ≤ 255))) && (decide (t ≠ 257) || tagB (d.ts.getD 0 ⟨#[]⟩))
theorem fitsB_eq (t : Nat) (d : Dat) : fitsB t d = fitsG (shp t) t d := rfl
/-- A shape in a block of its own. -/
def SBox (w : World) (b : Nat) (s : Shp) : Prop :=
  w.cell? ⟨b, 0, none⟩ = some (.int .i64 s.nn) ∧ w.cell? ⟨b, 1, none⟩ = some (.int .i64 s.nu) ∧ w.cell? ⟨b, 2, none⟩ = some (.int .i64 s.nt) ∧ w.cell? ⟨b, 3, none⟩ = some (.int .i64 s.nr) ∧ w.cell? ⟨b, 4, none⟩ = some (.int .i64 s.wd) ∧ b < w.heap.size
theorem SBox.new (w : World) (s : Shp) : SBox (w.alloc (.cells #[.int .i64 s.nn, .int .i64 s.nu, .int .i64 s.nt, .int .i64 s.nr, .int .i64 s.wd] 107)) w.heap.size s := by
  refine ⟨?_, ?_, ?_, ?_, ?_, by simp⟩ <;> (unfold World.cell?; rw [heap_alloc_new]; rfl)
theorem SBox.below {w w' : World} {b : Nat} {s : Shp} (h : SBox w b s) (hb : Below w.heap.size w w') : SBox w' b s :=
  ⟨(hb.cell (p := ⟨b, 0, none⟩) h.2.2.2.2.2).trans h.1, (hb.cell (p := ⟨b, 1, none⟩) h.2.2.2.2.2).trans h.2.1, (hb.cell (p := ⟨b, 2, none⟩) h.2.2.2.2.2).trans h.2.2.1, (hb.cell (p := ⟨b, 3, none⟩) h.2.2.2.2.2).trans h.2.2.2.1, (hb.cell (p := ⟨b, 4, none⟩) h.2.2.2.2.2).trans h.2.2.2.2.1, Nat.lt_of_lt_of_le h.2.2.2.2.2 hb.size⟩
/-- A shape and data, each in a block of its own. -/
def FtSt (w W : World) (b : Nat) (s : Shp) (x : DA) (d : Dat) : Prop := SBox W b s ∧ DBox W (b + 1) x ∧ DRd W x d ∧ Below w.heap.size w W
theorem FtSt.go {w W W' : World} {b : Nat} {s : Shp} {x : DA} {d : Dat} (h : FtSt w W b s x d) (hb : Below W.heap.size W W') : FtSt w W' b s x d :=
  ⟨h.1.below hb, h.2.1.below hb, h.2.2.1.below hb, h.2.2.2.trans (hb.mono h.2.2.2.size)⟩
theorem FtSt.new (w : World) (s : Shp) (x : DA) (d : Dat) (h : DRd w x d) : FtSt w ((w.alloc (.cells #[.int .i64 s.nn, .int .i64 s.nu, .int .i64 s.nt, .int .i64 s.nr, .int .i64 s.wd] 107)).alloc (.cells #[.slice x.p1.a x.p1.n x.p1.c, .slice x.p2.a x.p2.n x.p2.c, .slice x.p3.a x.p3.n x.p3.c, .slice x.p4.a x.p4.n x.p4.c] 29)) w.heap.size s x d := by
  have hb1 : Below w.heap.size w (w.alloc (.cells #[.int .i64 s.nn, .int .i64 s.nu, .int .i64 s.nt, .int .i64 s.nr, .int .i64 s.wd] 107)) := (Below.refl _ _).alloc (Nat.le_refl _) _
  have HX := SBox.new w s
  have hx1 := h.below hb1
  obtain ⟨W0, hW0⟩ : ∃ W, W = w.alloc (.cells #[.int .i64 s.nn, .int .i64 s.nu, .int .i64 s.nt, .int .i64 s.nr, .int .i64 s.wd] 107) := ⟨_, rfl⟩
  have hs0 : W0.heap.size = w.heap.size + 1 := by rw [hW0]; simp
  rw [← hW0] at hb1 HX hx1 ⊢
  have hb2 : Below W0.heap.size W0 (W0.alloc (.cells #[.slice x.p1.a x.p1.n x.p1.c, .slice x.p2.a x.p2.n x.p2.c, .slice x.p3.a x.p3.n x.p3.c, .slice x.p4.a x.p4.n x.p4.c] 29)) := (Below.refl _ _).alloc (Nat.le_refl _) _
  have HY := DBox.new W0 x
  rw [hs0] at HY
  exact ⟨HX.below hb2, HY, hx1.below hb2, hb1.trans (hb2.mono hb1.size)⟩
set_option maxRecDepth 100000 in
set_option maxHeartbeats 4000000 in
theorem fits_any (s : Shp) (t : Nat) (ht : t = 257 → s.nt = 2) (x : DA) (d : Dat) (w : World) (h : DRd w x d) :
    Calls Tryz.prog 72 #[.int .u16 t, .agg #[.int .i64 s.nn, .int .i64 s.nu, .int .i64 s.nt, .int .i64 s.nr, .int .i64 s.wd], .agg #[.slice x.p1.a x.p1.n x.p1.c, .slice x.p2.a x.p2.n x.p2.c, .slice x.p3.a x.p3.n x.p3.c, .slice x.p4.a x.p4.n x.p4.c]] w fun e w' => e = .returned (.bool (fitsG s t d)) ∧ Hid (Below w.heap.size w w') := by
  have H : Hid (FtSt w ((w.alloc (.cells #[.int .i64 s.nn, .int .i64 s.nu, .int .i64 s.nt, .int .i64 s.nr, .int .i64 s.wd] 107)).alloc (.cells #[.slice x.p1.a x.p1.n x.p1.c, .slice x.p2.a x.p2.n x.p2.c, .slice x.p3.a x.p3.n x.p3.c, .slice x.p4.a x.p4.n x.p4.c] 29)) w.heap.size s x d) := FtSt.new w s x d h
  have l1 := h.h1.len
  have l2 := h.h2.len
  have l3 := h.h3.len
  have l4 := h.h4.len
  have HC : Hid (x.p2.n ≤ 9223372036854775807 ∧ x.p3.n ≤ 9223372036854775807) := ⟨Nat.le_trans h.h2.cap.1 h.h2.cap.2, Nat.le_trans h.h3.cap.1 h.h3.cap.2⟩
  clear h
  obtain ⟨nn, nu, nt, nr, wd⟩ := s
  obtain ⟨⟨a1, n1, k1⟩, ⟨a2, n2, k2⟩, ⟨a3, n3, k3⟩, ⟨a4, n4, k4⟩⟩ := x
  simp only at H l1 l2 l3 l4 ht HC ⊢
  have HG : Hid (fitsG ⟨nn, nu, nt, nr, wd⟩ t d = (decide (n1 = nn) && decide (n2 = nu) && (decide (nt < 0) || decide ((n3 : Int) = nt)) && (decide (0 ≤ nt) || decide (n3 ≠ 0)) && (decide (nr < 0) || decide ((n4 : Int) = nr)) && d.us.all (fun n => decide (n ≤ most wd)) && (decide (t ≠ 16) || d.ts.all (fun s => decide (s.size ≤ 255))) && (decide (t ≠ 257) || tagB (d.ts.getD 0 ⟨#[]⟩)))) := by
    show _ = _
    unfold fitsG
    rw [l1, l2, l3, l4]
  have HL : Hid (d.us.length = n2 ∧ d.ts.length = n3) := ⟨l2, l3⟩
  have HT : Hid (t = 257 → nt = 2) := ht
  clear l1 l2 l3 l4 ht
  obtain ⟨R, hR⟩ : ∃ R, fitsG ⟨nn, nu, nt, nr, wd⟩ t d = R := ⟨_, rfl⟩
  rw [hR]
  rw [hR] at HG
  clear hR
  go_enter Tryz.func72, Tryz.ntmps72
  go_upto_region 1 with fail
  generalize ((w.alloc (.cells #[.int .i64 nn, .int .i64 nu, .int .i64 nt, .int .i64 nr, .int .i64 wd] 107)).alloc (.cells #[.slice a1 n1 k1, .slice a2 n2 k2, .slice a3 n3 k3, .slice a4 n4 k4] 29)) = W1 at *
  obtain ⟨b, hb⟩ : ∃ b, b = w.heap.size := ⟨_, rfl⟩
  rw [← hb] at H ⊢
  have Hb : Hid (b = w.heap.size) := hb
  clear hb
  have s0 := H.out.1.1
  have s1 := H.out.1.2.1
  have s2 := H.out.1.2.2.1
  have s3 := H.out.1.2.2.2.1
  have s4 := H.out.1.2.2.2.2.1
  have c0 := H.out.2.1.1
  have c1 := H.out.2.1.2.1
  have c2 := H.out.2.1.2.2.1
  have c3 := H.out.2.1.2.2.2.1
  simp only at s0 s1 s2 s3 s4 c0 c1 c2 c3
  by_cases e1 : n1 = nn
  case neg =>
    have HE : Hid (R = false) := by
      have := HG.out
      rw [decide_eq_false e1] at this
      show R = false
      simpa using this
    have q : ((n1 : Int) != (nn : Int)) = true := by simp; omega
    clear HG
    go_wp2_with fail
    go_ret
    exact ⟨by rw [HE.out]; rfl, H.out.2.2.2⟩
  subst e1
  by_cases e2 : n2 = nu
  case neg =>
    have HE : Hid (R = false) := by
      have := HG.out
      rw [decide_eq_false e2] at this
      show R = false
      simpa using this
    have q : ((n2 : Int) != (nu : Int)) = true := by simp; omega
    clear HG
    go_wp2_with fail
    go_ret
    exact ⟨by rw [HE.out]; rfl, H.out.2.2.2⟩
  subst e2
  by_cases e3 : nt < 0 ∨ (n3 : Int) = nt
  case neg =>
    have HE : Hid (R = false) := by
      have := HG.out
      rw [decide_eq_false (show ¬ nt < 0 by omega), decide_eq_false (show ¬ (n3 : Int) = nt by omega)] at this
      show R = false
      simpa using this
    have q0 : 0 ≤ nt := by omega
    have q : ((n3 : Int) != nt) = true := by simp; omega
    clear HG
    go_wp2_with fail
    go_ret
    exact ⟨by rw [HE.out]; rfl, H.out.2.2.2⟩
  by_cases e4 : nt < 0 ∧ n3 = 0
  case pos =>
    obtain ⟨e4a, e4b⟩ := e4
    subst e4b
    have HE : Hid (R = false) := by
      have := HG.out
      rw [decide_eq_false (show ¬ 0 ≤ nt by omega)] at this
      show R = false
      simpa using this
    have q0 : ¬ 0 ≤ nt := by omega
    clear HG e3
    go_wp2_with fail
    go_ret
    exact ⟨by rw [HE.out]; rfl, H.out.2.2.2⟩
  by_cases e5 : nr < 0 ∨ (n4 : Int) = nr
  case neg =>
    have HE : Hid (R = false) := by
      have := HG.out
      rw [decide_eq_false (show ¬ nr < 0 by omega), decide_eq_false (show ¬ (n4 : Int) = nr by omega)] at this
      show R = false
      simpa using this
    have p0 : 0 ≤ nr := by omega
    have p : ((n4 : Int) != nr) = true := by simp; omega
    have hor : (nt < 0 ∧ ((n3 : Int) == 0) = false ∧ ¬ 0 ≤ nt) ∨ (0 ≤ nt ∧ ¬ nt < 0 ∧ ((n3 : Int) != nt) = false) := by
      by_cases hn : nt < 0
      · exact .inl ⟨hn, by simp; omega, by omega⟩
      · exact .inr ⟨by omega, hn, by simp; omega⟩
    clear HG e3 e4 e5
    rcases hor with ⟨o1, o2, o3⟩ | ⟨o1, o2, o3⟩
    all_goals
      go_wp2_with fail
      go_ret
      exact ⟨by rw [HE.out]; rfl, H.out.2.2.2⟩
  have hor : (nt < 0 ∧ ((n3 : Int) == 0) = false ∧ ¬ 0 ≤ nt) ∨ (0 ≤ nt ∧ ¬ nt < 0 ∧ ((n3 : Int) != nt) = false) := by
    by_cases hn : nt < 0
    · exact .inl ⟨hn, by simp; omega, by omega⟩
    · exact .inr ⟨by omega, hn, by simp; omega⟩
  have hor2 : (nr < 0 ∧ ¬ 0 ≤ nr) ∨ (0 ≤ nr ∧ ((n4 : Int) != nr) = false) := by
    by_cases hn : nr < 0
    · exact .inl ⟨hn, by omega⟩
    · exact .inr ⟨by omega, by simp; omega⟩
  have HG2 : Hid (R = (d.us.all (fun n => decide (n ≤ most wd)) && (decide (t ≠ 16) || d.ts.all (fun s => decide (s.size ≤ 255))) && (decide (t ≠ 257) || tagB (d.ts.getD 0 ⟨#[]⟩)))) := by
    have := HG.out
    show R = _
    rw [this]
    have z1 : (decide (nt < 0) || decide ((n3 : Int) = nt)) = true := by simpa using e3
    have z2 : (decide (0 ≤ nt) || decide (n3 ≠ 0)) = true := by
      simp
      omega
    have z3 : (decide (nr < 0) || decide ((n4 : Int) = nr)) = true := by simpa using e5
    rw [z1, z2, z3]
    simp
  have H3 : Hid (t = 257 → 0 < n3) := by
    intro h257
    have := HT.out h257
    omega
  clear HG e3 e4 e5 HT
  go_cut [59] from 9 to 59 (fun s59 wx => wx = W1 ∧ s59 = .bool false)
  case first =>
    rcases hor with ⟨o1, o2, o3⟩ | ⟨o1, o2, o3⟩ <;> rcases hor2 with ⟨o4, o5⟩ | ⟨o4, o5⟩
    all_goals
      go_wp2_with fail
      go_meet
      exact ⟨rfl, rfl⟩
  case rest =>
    obtain ⟨hwc, rfl⟩ := hcut
    subst hwc
    clear hor hor2 s0 s1 s2 s3 s4 c0 c1 c2 c3
    have hc2 := HC.out.1
    have hc3 := HC.out.2
    go_wp2_with fail
    go_loopw [7] (fun v wr => ∃ k : Nat, k ≤ n2 ∧ v = .int .i64 (k : Int) ∧ Hid (FtSt w wr b ⟨n1, n2, nt, nr, wd⟩ ⟨⟨a1, n1, k1⟩, ⟨a2, n2, k2⟩, ⟨a3, n3, k3⟩, ⟨a4, n4, k4⟩⟩ d) ∧ Hid (∀ y ∈ d.us.take k, y ≤ most wd)) (fun v _ => n2 - (intOf v).toNat)
    case atStart => exact ⟨0, Nat.zero_le _, rfl, H, by intro y hy; simp at hy⟩
    case round =>
      obtain ⟨k, hk, rfl, HI, HF⟩ := hrel
      clear H
      have s4 := HI.out.1.2.2.2.2.1
      have c1 := HI.out.2.1.2.1
      simp only at s4 c1
      by_cases hlt : k < n2
      · have hlt' : (k : Int) < (n2 : Int) := by omega
        have hki : k < d.us.length := by rw [HL.out.1]; exact hlt
        obtain ⟨B1, o1, ha1, hl1, hz1⟩ := HI.out.2.2.1.h2.at k hki
        simp only at ha1
        subst ha1
        have HU : Hid (∃ h : k < d.us.length, d.us[k] = d.us[k]) := ⟨hki, rfl⟩
        obtain ⟨u, hu⟩ : ∃ u, d.us[k] = u := ⟨_, rfl⟩
        rw [hu] at hz1
        have HU2 : Hid (∀ h : k < d.us.length, d.us[k] = u) := fun _ => hu
        clear hu
        have KM : Hid (∀ W, Calls Tryz.prog 104 #[.int .i64 wd] W fun e w' => e = .returned (.int .u32 (most wd)) ∧ w' = W) := fun W => most_any wd W
        have HM : Hid (most wd = most wd) := (show _ = _ from rfl)
        obtain ⟨M, hM⟩ : ∃ M, most wd = M := ⟨_, rfl⟩
        rw [hM] at KM
        have HM2 : Hid (most wd = M) := hM
        clear hM HM
        by_cases hgt : M < u
        · have HE : Hid (R = false) := by
            have := HG2.out
            have hno : d.us.all (fun n => decide (n ≤ most wd)) = false := by
              rw [← Bool.not_eq_true]
              intro hall
              have := List.all_eq_true.1 hall d.us[k] (List.getElem_mem hki)
              rw [HU2.out hki, HM2.out] at this
              simp at this
              omega
            rw [hno] at this
            show R = false
            simpa using this
          have hgt' : (M : Int) < (u : Int) := by omega
          clear HG2 HU HU2
          go_wp2_with fail
          go_quiet (first
            | (go_at_call 104; exact Calls.quiet_of_same (KM.out _)))
          have H2 : Hid (FtSt w (wr.drewN nq) b ⟨n1, n2, nt, nr, wd⟩ ⟨⟨a1, n1, k1⟩, ⟨some ⟨B1, o1, none⟩, n2, k2⟩, ⟨a3, n3, k3⟩, ⟨a4, n4, k4⟩⟩ d) := HI.out.go ⟨rfl, rfl, rfl, Nat.le_refl _, fun _ _ => rfl⟩
          clear s4 c1 hz1 HI
          generalize wr.drewN nq = Wq at *
          go_wp2_with fail
          go_ret
          exact ⟨by rw [HE.out]; rfl, H2.out.2.2.2⟩
        · have HF2 : Hid (∀ y ∈ d.us.take (k + 1), y ≤ most wd) := by
            intro y hy
            rw [List.take_succ_eq_append_getElem hki] at hy
            simp only [List.mem_append, List.mem_singleton] at hy
            rcases hy with hy | hy
            · exact HF.out y hy
            · subst hy; rw [HU2.out hki, HM2.out]; omega
          have hgt' : ¬ (M : Int) < (u : Int) := by omega
          clear HF HU HU2
          go_wp2_with fail
          go_quiet (first
            | (go_at_call 104; exact Calls.quiet_of_same (KM.out _)))
          have H2 : Hid (FtSt w (wr.drewN nq) b ⟨n1, n2, nt, nr, wd⟩ ⟨⟨a1, n1, k1⟩, ⟨some ⟨B1, o1, none⟩, n2, k2⟩, ⟨a3, n3, k3⟩, ⟨a4, n4, k4⟩⟩ d) := HI.out.go ⟨rfl, rfl, rfl, Nat.le_refl _, fun _ _ => rfl⟩
          clear s4 c1 hz1 HI KM
          generalize wr.drewN nq = Wq at *
          go_wp2_with fail
          exact ⟨⟨k + 1, by omega, by go_num, H2, HF2⟩, by simp [intOf]; omega⟩
      · have hge : ¬ (k : Int) < (n2 : Int) := by omega
        have HG3 : Hid (R = ((decide (t ≠ 16) || d.ts.all (fun s => decide (s.size ≤ 255))) && (decide (t ≠ 257) || tagB (d.ts.getD 0 ⟨#[]⟩)))) := by
          have hall := HF.out
          rw [List.take_of_length_le (by rw [HL.out.1]; omega)] at hall
          have := HG2.out
          rw [List.all_eq_true.2 (fun y hy => decide_eq_true (hall y hy))] at this
          show R = _
          rw [this]; simp
        clear HG2 HF s4
        go_wp2_with fail
        obtain ⟨wz, hz⟩ : ∃ z, z = wr := ⟨_, rfl⟩
        subst hz
        clear c1
        go_loopw [8] (fun v wr => wr = wz ∧ ∃ j : Nat, j ≤ n3 ∧ v = .int .i64 (j : Int) ∧ Hid (∀ y ∈ d.ts.take j, y.size ≤ 255)) (fun v _ => n3 - (intOf v).toNat)
        case atStart => exact ⟨rfl, 0, Nat.zero_le _, rfl, by intro y hy; simp at hy⟩
        case round =>
          obtain ⟨hwr, j, hj, rfl, HF⟩ := hrel
          subst hwr
          have c2 := HI.out.2.1.2.2.1
          simp only at c2
          by_cases h16 : t = 16
          · subst h16
            by_cases hjt : j < n3
            · have hjt' : (j : Int) < (n3 : Int) := by omega
              have hji : j < d.ts.length := by rw [HL.out.2]; exact hjt
              obtain ⟨B1, o1, ha1, hl1, hz1⟩ := HI.out.2.2.1.h3.rd.at j hji
              simp only at ha1
              subst ha1
              have hz63 := HI.out.2.2.1.h3.z63 _ (List.getElem_mem hji)
              obtain ⟨s, hs⟩ : ∃ s, d.ts[j] = s := ⟨_, rfl⟩
              rw [hs] at hz1 hz63
              have HS : Hid (∀ h : j < d.ts.length, d.ts[j] = s) := fun _ => hs
              clear hs
              by_cases hgt : 255 < s.size
              · have HE : Hid (R = false) := by
                  have := HG3.out
                  have hno : d.ts.all (fun s => decide (s.size ≤ 255)) = false := by
                    rw [← Bool.not_eq_true]
                    intro hall
                    have := List.all_eq_true.1 hall d.ts[j] (List.getElem_mem hji)
                    rw [HS.out hji] at this
                    simp at this
                    omega
                  rw [hno] at this
                  show R = false
                  simpa using this
                have hgt' : (255 : Int) < (s.size : Int) := by omega
                clear HG3 HS HF
                go_wp2_with fail
                go_ret
                exact ⟨by rw [HE.out]; rfl, HI.out.2.2.2⟩
              · have HF2 : Hid (∀ y ∈ d.ts.take (j + 1), y.size ≤ 255) := by
                  intro y hy
                  rw [List.take_succ_eq_append_getElem hji] at hy
                  simp only [List.mem_append, List.mem_singleton] at hy
                  rcases hy with hy | hy
                  · exact HF.out y hy
                  · subst hy; rw [HS.out hji]; omega
                have hgt' : ¬ (255 : Int) < (s.size : Int) := by omega
                clear HF HS HG3
                go_wp2_with fail
                exact ⟨⟨by first | rfl | trivial, j + 1, by omega, by go_num, HF2⟩, by simp [intOf]; omega⟩
            · have hjge : ¬ (j : Int) < (n3 : Int) := by omega
              have HE : Hid (R = true) := by
                have hall := HF.out
                rw [List.take_of_length_le (by rw [HL.out.2]; omega)] at hall
                have := HG3.out
                rw [List.all_eq_true.2 (fun y hy => decide_eq_true (hall y hy))] at this
                show R = true
                rw [this]; simp
              clear HG3 HF
              go_wp2_with fail
              go_ret
              exact ⟨by rw [HE.out]; rfl, HI.out.2.2.2⟩
          · have q16 : ((t : Int) == 16) = false := by simp; omega
            have HG4 : Hid (R = (decide (t ≠ 257) || tagB (d.ts.getD 0 ⟨#[]⟩))) := by
              have := HG3.out
              rw [decide_eq_true h16] at this
              show R = _
              rw [this]; simp
            clear HG3 HF
            by_cases h257 : t = 257
            · subst h257
              have h3 : 0 < n3 := H3.out rfl
              have hji : 0 < d.ts.length := by rw [HL.out.2]; exact h3
              obtain ⟨B1, o1, ha1, hl1, hz1⟩ := HI.out.2.2.1.h3.rd.at 0 hji
              simp only at ha1
              subst ha1
              have hz63 := HI.out.2.2.1.h3.z63 _ (List.getElem_mem hji)
              obtain ⟨s, hs⟩ : ∃ s, d.ts[0] = s := ⟨_, rfl⟩
              rw [hs] at hz1 hz63
              have HE : Hid (R = tagB s) := by
                have := HG4.out
                show R = _
                rw [this, ← hs]
                simp [List.getD_eq_getElem?_getD, hji]
              clear hs HG4
              have h3' : (0 : Int) < (n3 : Int) := by omega
              rw [Nat.add_zero] at hz1
              go_wp2_with fail
              refine (tag_any s hz63 _).mono ?_
              rintro e Wt ⟨rfl, rfl⟩
              go_wp2_with fail
              go_ret
              exact ⟨by rw [HE.out]; rfl, HI.out.2.2.2⟩
            · have q257 : ((t : Int) != 257) = true := by simp; omega
              have HE : Hid (R = true) := by
                have := HG4.out
                show R = true
                rw [this, decide_eq_true h257]; rfl
              clear HG4
              go_wp2_with fail
              go_ret
              exact ⟨by rw [HE.out]; rfl, HI.out.2.2.2⟩
end Go.Proofs.YtfkfjodfjgjbkaaGreatDoor
/- The document's own answer: how many bytes data have; whether data are of a type. -/
namespace Go.Proofs.YtfkfjodfjgjbkaaGreatDoor
open Go.ChangeShapes Go.WideShapes Go.ChangeAt Go.RowKit
set_option linter.unusedVariables false
set_option linter.unusedSimpArgs false




theorem tsz_snoc (t : Nat) (l : List ByteArray) (s : ByteArray) : tsz t (l ++ [s]) = tsz t l + s.size + (if t = 16 ∨ l = [] then 1 else 0) := by
  unfold tsz
  by_cases h : t = 16
  · rw [if_pos h, if_pos h, if_pos (.inl h)]
    simp [nby, nums_len]; omega
  · rw [if_neg h, if_neg h]
    cases l with
    | nil => simp
    | cons x r => simp [h, nums_len]; omega
theorem sum_snoc (l : List Nat) (n : Nat) : (l ++ [n]).sum = l.sum + n := by simp
theorem sum_take (l : List Nat) (k : Nat) : (l.take k).sum ≤ l.sum := by
  induction l generalizing k with
  | nil => simp
  | cons x l ih =>
    cases k with
    | zero => simp
    | succ k => simp; exact ih k
theorem tsz_take (t : Nat) (l : List ByteArray) (k : Nat) : tsz t (l.take k) ≤ tsz t l := by
  have step : ∀ n, tsz t (l.take (l.length - n)) ≤ tsz t l := by
    intro n
    induction n with
    | zero => simp
    | succ n ih =>
      by_cases h : l.length - n = 0
      · rw [show l.length - (n + 1) = l.length - n by omega]; exact ih
      · have e : l.length - n = (l.length - (n + 1)) + 1 := by omega
        have hlt : l.length - (n + 1) < l.length := by omega
        rw [e, List.take_succ_eq_append_getElem hlt, tsz_snoc] at ih
        omega
  by_cases hk : k ≤ l.length
  · have := step (l.length - k)
    rwa [show l.length - (l.length - k) = k by omega] at this
  · rw [List.take_of_length_le (by omega)]; exact Nat.le_refl _
def sizesG (s : Shp) (t : Nat) (d : Dat) : Nat := d.raw.length + d.us.length * s.wd + (d.ns.map nsz).sum + tsz t d.ts
theorem sizesF_eq (t : Nat) (d : Dat) : sizesF t d = sizesG (shp t) t d := rfl
set_option maxRecDepth 100000 in
set_option maxHeartbeats 4000000 in
theorem sizes_any (s : Shp) (t : Nat) (hwd : s.wd ≤ 4) (x : DA) (d : Dat) (w : World) (h : DRd w x d) (hB : sizesG s t d ≤ 1000000000000000) :
    Calls Tryz.prog 74 #[.int .u16 t, .agg #[.int .i64 s.nn, .int .i64 s.nu, .int .i64 s.nt, .int .i64 s.nr, .int .i64 s.wd], .agg #[.slice x.p1.a x.p1.n x.p1.c, .slice x.p2.a x.p2.n x.p2.c, .slice x.p3.a x.p3.n x.p3.c, .slice x.p4.a x.p4.n x.p4.c]] w fun e w' => e = .returned (.int .i64 (sizesG s t d : Nat)) ∧ Hid (Below w.heap.size w w') := by
  have H : Hid (FtSt w ((w.alloc (.cells #[.int .i64 s.nn, .int .i64 s.nu, .int .i64 s.nt, .int .i64 s.nr, .int .i64 s.wd] 107)).alloc (.cells #[.slice x.p1.a x.p1.n x.p1.c, .slice x.p2.a x.p2.n x.p2.c, .slice x.p3.a x.p3.n x.p3.c, .slice x.p4.a x.p4.n x.p4.c] 29)) w.heap.size s x d) := FtSt.new w s x d h
  have l1 := h.h1.len
  have l2 := h.h2.len
  have l3 := h.h3.len
  have l4 := h.h4.len
  have hc1 : x.p1.n ≤ 9223372036854775807 := Nat.le_trans h.h1.cap.1 h.h1.cap.2
  have hc3 : x.p3.n ≤ 9223372036854775807 := Nat.le_trans h.h3.cap.1 h.h3.cap.2
  clear h
  obtain ⟨nn, nu, nt, nr, wd⟩ := s
  obtain ⟨⟨a1, n1, k1⟩, ⟨a2, n2, k2⟩, ⟨a3, n3, k3⟩, ⟨a4, n4, k4⟩⟩ := x
  simp only at H l1 l2 l3 l4 hwd hc1 hc3 ⊢
  obtain ⟨Z, hZ⟩ : ∃ Z, sizesG ⟨nn, nu, nt, nr, wd⟩ t d = Z := ⟨_, rfl⟩
  rw [hZ] at hB ⊢
  have HZ : Hid (Z = n4 + n2 * wd + (d.ns.map nsz).sum + tsz t d.ts) := by
    show Z = _
    rw [← hZ]
    unfold sizesG
    rw [l4, l2]
  have HL : Hid (d.ns.length = n1 ∧ d.ts.length = n3) := ⟨l1, l3⟩
  clear hZ l1 l2 l3 l4
  obtain ⟨P, hP⟩ : ∃ P, n2 * wd = P := ⟨_, rfl⟩
  rw [hP] at HZ
  have hPi : (n2 : Int) * (wd : Int) = (P : Int) := by rw [← hP]; simp
  clear hP
  have hPb : n4 + P ≤ 1000000000000000 := by have := HZ.out; omega
  have w1 : IntKind.i64.wrap ((n2 : Int) * (wd : Int)) = (P : Int) := by rw [hPi, IntKind.wrap_i64]; omega
  have w2 : IntKind.i64.wrap ((n4 : Int) + (P : Int)) = ((n4 + P : Nat) : Int) := by rw [IntKind.wrap_i64]; omega
  clear hPi
  go_enter Tryz.func74, Tryz.ntmps74
  go_upto_region 1 with fail
  generalize ((w.alloc (.cells #[.int .i64 nn, .int .i64 nu, .int .i64 nt, .int .i64 nr, .int .i64 wd] 107)).alloc (.cells #[.slice a1 n1 k1, .slice a2 n2 k2, .slice a3 n3 k3, .slice a4 n4 k4] 29)) = W1 at *
  obtain ⟨b, hb⟩ : ∃ b, b = w.heap.size := ⟨_, rfl⟩
  rw [← hb] at H ⊢
  have Hb : Hid (b = w.heap.size) := hb
  clear hb
  have s4 := H.out.1.2.2.2.2.1
  have c1 := H.out.2.1.2.1
  have c3 := H.out.2.1.2.2.2.1
  simp only at s4 c1 c3
  go_wp2_with fail
  clear s4 c1 c3
  go_loopw [7, 8] (fun v i wr => wr = W1 ∧ ∃ k A : Nat, k ≤ n1 ∧ i = .int .i64 (k : Int) ∧ v = .int .i64 (A : Int) ∧ A ≤ Z ∧ Hid (A = n4 + P + ((d.ns.map nsz).take k).sum)) (fun _ i _ => n1 - (intOf i).toNat)
  case atStart => exact ⟨rfl, 0, n4 + P, Nat.zero_le _, rfl, by simp, by have := HZ.out; omega, by show _ = _; simp⟩
  case round =>
    obtain ⟨hwr, k, A, hk, rfl, rfl, hA, HA⟩ := hrel
    subst hwr
    have c0 := H.out.2.1.1
    simp only at c0
    by_cases hlt : k < n1
    · have hlt' : (k : Int) < (n1 : Int) := by omega
      have hki : k < d.ns.length := by rw [HL.out.1]; exact hlt
      obtain ⟨B1, o1, ha1, hl1, z1, hz1, hr1⟩ := H.out.2.2.1.h1.at k hki
      simp only at ha1
      subst ha1
      have hsum : ((d.ns.map nsz).take (k + 1)).sum = ((d.ns.map nsz).take k).sum + nsz d.ns[k] := by
        rw [List.take_succ_eq_append_getElem (by simp; exact hki), sum_snoc]; simp
      have hle := sum_take (d.ns.map nsz) (k + 1)
      have hZ := HZ.out
      have hA2 := HA.out
      have HA2 : Hid (A + nsz d.ns[k] = n4 + P + ((d.ns.map nsz).take (k + 1)).sum) := by show _ = _; omega
      have hb2 : A + nsz d.ns[k] ≤ Z := by have := HA2.out; omega
      have KS : Hid (∀ W, W = wr → Calls Tryz.prog 107 #[.slice z1.a z1.n z1.c] W fun e w' => e = .returned (.int .i64 (nsz d.ns[k])) ∧ w' = W) := by
        intro W e
        subst e
        exact refsize_any z1.a z1.n z1.c d.ns[k] W hr1.rd hr1.len (by omega)
      clear hsum hle hZ hA2 hr1 HA
      generalize nsz d.ns[k] = q at *
      generalize z1.a = za at *
      generalize z1.n = zn at *
      generalize z1.c = zc at *
      have w3 : IntKind.i64.wrap ((A : Int) + (q : Int)) = ((A + q : Nat) : Int) := by rw [IntKind.wrap_i64]; omega
      go_wp2_with fail
      refine (KS.out _ rfl).mono ?_
      rintro e Wx ⟨rfl, rfl⟩
      go_wp2_with fail
      refine ⟨⟨by first | rfl | trivial, k + 1, A + q, by omega, by go_num, by go_num, hb2, HA2⟩, ?_⟩
      simp [intOf]; omega
    · have hge : ¬ (k : Int) < (n1 : Int) := by omega
      have HA1 : Hid (A = n4 + P + (d.ns.map nsz).sum) := by
        have := HA.out
        rwa [List.take_of_length_le (by simp; rw [HL.out.1]; omega)] at this
      clear HA
      go_wp2_with fail
      obtain ⟨wz, hz⟩ : ∃ z, z = wr := ⟨_, rfl⟩
      subst hz
      clear c0
      go_loopw [7, 9] (fun v i wr => wr = wz ∧ ∃ j B : Nat, j ≤ n3 ∧ i = .int .i64 (j : Int) ∧ v = .int .i64 (B : Int) ∧ B ≤ Z ∧ Hid (B = A + tsz t (d.ts.take j))) (fun _ i _ => n3 - (intOf i).toNat)
      case atStart => exact ⟨rfl, 0, A, Nat.zero_le _, rfl, rfl, hA, by show _ = _; simp [tsz, nby]⟩
      case round =>
        obtain ⟨hwr, j, B, hj, rfl, rfl, hB2, HBB⟩ := hrel
        subst hwr
        have c2 := H.out.2.1.2.2.1
        simp only at c2
        by_cases hjt : j < n3
        · have hjt' : (j : Int) < (n3 : Int) := by omega
          have hji : j < d.ts.length := by rw [HL.out.2]; exact hjt
          obtain ⟨B1, o1, ha1, hl1, hz1⟩ := H.out.2.2.1.h3.rd.at j hji
          simp only at ha1
          subst ha1
          have hsn := tsz_snoc t (d.ts.take j) d.ts[j]
          rw [← List.take_succ_eq_append_getElem hji] at hsn
          have hle := tsz_take t d.ts (j + 1)
          have hZ := HZ.out
          have hA1 := HA1.out
          have hBv := HBB.out
          have hnil : d.ts.take j = [] ↔ j = 0 := by
            constructor
            · intro e
              have := congrArg List.length e
              rw [List.length_take] at this
              simp only [List.length_nil] at this
              omega
            · rintro rfl; rfl
          obtain ⟨s, hs⟩ : ∃ s, d.ts[j] = s := ⟨_, rfl⟩
          rw [hs] at hz1 hsn
          by_cases hone : t = 16 ∨ j = 0
          · rw [if_pos (by rw [hnil]; exact hone)] at hsn
            have HB3 : Hid (B + s.size + 1 = A + tsz t (d.ts.take (j + 1))) := by show _ = _; omega
            have hb3 : B + s.size + 1 ≤ Z := by have := HB3.out; omega
            clear hsn hle hZ hA1 hBv hnil hs HBB
            have w3 : IntKind.i64.wrap ((B : Int) + (s.size : Int)) = ((B + s.size : Nat) : Int) := by rw [IntKind.wrap_i64]; omega
            have w4 : IntKind.i64.wrap (((B + s.size : Nat) : Int) + 1) = ((B + s.size + 1 : Nat) : Int) := by rw [IntKind.wrap_i64]; omega
            have hcs : t = 16 ∨ (((t : Int) == 16) = false ∧ j = 0) := by
              by_cases h16 : t = 16
              · exact .inl h16
              · exact .inr ⟨by simp; omega, by omega⟩
            clear hone
            generalize B + s.size + 1 = q1 at *
            generalize B + s.size = q0 at *
            rcases hcs with h16 | ⟨h16, h00⟩
            · subst h16
              go_wp2_with fail
              refine ⟨⟨by first | rfl | trivial, j + 1, q1, by omega, by go_num, by go_num, hb3, HB3⟩, ?_⟩
              simp [intOf]; omega
            · have qj : ((j : Int) == 0) = true := by simp; omega
              have HJ0 : Hid (j = 0) := h00
              clear h00
              go_wp2_with fail
              refine ⟨⟨by first | rfl | trivial, j + 1, q1, by omega, by go_num, by go_num, hb3, HB3⟩, ?_⟩
              simp [intOf]; omega
          · rw [if_neg (by rw [hnil]; exact hone)] at hsn
            have HB3 : Hid (B + s.size = A + tsz t (d.ts.take (j + 1))) := by show _ = _; omega
            have hb3 : B + s.size ≤ Z := by have := HB3.out; omega
            clear hsn hle hZ hA1 hBv hnil hs HBB
            have w3 : IntKind.i64.wrap ((B : Int) + (s.size : Int)) = ((B + s.size : Nat) : Int) := by rw [IntKind.wrap_i64]; omega
            have q16 : ((t : Int) == 16) = false := by simp; omega
            have qj : ((j : Int) == 0) = false := by simp; omega
            clear hone
            generalize B + s.size = q0 at *
            go_wp2_with fail
            refine ⟨⟨by first | rfl | trivial, j + 1, q0, by omega, by go_num, by go_num, hb3, HB3⟩, ?_⟩
            simp [intOf]; omega
        · have hjge : ¬ (j : Int) < (n3 : Int) := by omega
          have HE : Hid (B = Z) := by
            have h1 := HBB.out
            rw [List.take_of_length_le (by rw [HL.out.2]; omega)] at h1
            have h2 := HZ.out
            have h3 := HA1.out
            show _ = _
            omega
          clear HBB
          go_wp2_with fail
          go_ret
          exact ⟨by rw [HE.out]; rfl, H.out.2.2.2⟩
end Go.Proofs.YtfkfjodfjgjbkaaGreatDoor
/- The document's own answer: whether data are of a type. -/
namespace Go.Proofs.YtfkfjodfjgjbkaaGreatDoor
open Go.ChangeShapes Go.WideShapes Go.ChangeAt Go.RowKit
set_option linter.unusedVariables false
set_option linter.unusedSimpArgs false




theorem shp_wd (t : Nat) : (shp t).wd ≤ 4 := by
  rcases shp_cases t with ⟨_, e⟩ | ⟨_, e⟩ | ⟨_, e⟩ | ⟨_, e⟩ | ⟨_, e⟩ | ⟨_, e⟩ | ⟨_, e⟩ | ⟨_, e⟩ | ⟨_, e⟩ <;> rw [e] <;> decide
theorem shp_257 (t : Nat) (h : t = 257) : (shp t).nt = 2 := by subst h; rfl
theorem nsErr_drop (l : List (List ByteArray)) (k : Nat) (h : ∀ n ∈ l.take k, nck n = 0) : nsErr l = nsErr (l.drop k) := by
  induction k generalizing l with
  | zero => rfl
  | succ k ih =>
    cases l with
    | nil => rfl
    | cons n r =>
      have h0 := h n (by simp)
      rw [List.drop_succ_cons, ← ih r (fun m hm => h m (by simp [hm]))]
      show (if nck n = 0 then nsErr r else nck n) = _
      rw [if_pos h0]
theorem nsz_mem_sum (l : List (List ByteArray)) (n : List ByteArray) (hn : n ∈ l) : nsz n ≤ (l.map nsz).sum := by
  induction l with
  | nil => simp at hn
  | cons m r ih =>
    simp only [List.mem_cons] at hn
    simp only [List.map_cons, List.sum_cons]
    rcases hn with rfl | hn
    · omega
    · have := ih hn; omega
/-- Data and a shape, each in a block of its own, the one at b, the other at g. -/
def CkSt (w W : World) (b g : Nat) (s : Shp) (x : DA) (d : Dat) : Prop := DBox W b x ∧ SBox W g s ∧ DRd W x d ∧ Below w.heap.size w W
theorem CkSt.go {w W W' : World} {b g : Nat} {s : Shp} {x : DA} {d : Dat} (h : CkSt w W b g s x d) (hb : Below W.heap.size W W') : CkSt w W' b g s x d :=
  ⟨h.1.below hb, h.2.1.below hb, h.2.2.1.below hb, h.2.2.2.trans (hb.mono h.2.2.2.size)⟩
theorem CkSt.new {w W : World} {b : Nat} (s : Shp) {x : DA} {d : Dat} (h1 : DBox W b x) (h2 : DRd W x d) (h3 : Below w.heap.size w W) : CkSt w (W.alloc (.cells #[.int .i64 s.nn, .int .i64 s.nu, .int .i64 s.nt, .int .i64 s.nr, .int .i64 s.wd] 107)) b W.heap.size s x d := by
  have hb : Below W.heap.size W (W.alloc (.cells #[.int .i64 s.nn, .int .i64 s.nu, .int .i64 s.nt, .int .i64 s.nr, .int .i64 s.wd] 107)) := (Below.refl _ _).alloc (Nat.le_refl _) _
  exact ⟨h1.below hb, SBox.new W s, h2.below hb, h3.trans (hb.mono h3.size)⟩
set_option maxRecDepth 100000 in
set_option maxHeartbeats 4000000 in
theorem rcheck_any (t : Nat) (x : DA) (d : Dat) (w : World) (h : DRd w x d) (hB : sizesF t d ≤ 1000000000000000) :
    Calls Tryz.prog 38 #[.int .u16 t, .agg #[.slice x.p1.a x.p1.n x.p1.c, .slice x.p2.a x.p2.n x.p2.c, .slice x.p3.a x.p3.n x.p3.c, .slice x.p4.a x.p4.n x.p4.c]] w fun e w' => e = .returned (.int .i64 (checkF t d)) ∧ Hid (Below w.heap.size w w') := by
  have hb0 : Below w.heap.size w (w.alloc (.cells #[.slice x.p1.a x.p1.n x.p1.c, .slice x.p2.a x.p2.n x.p2.c, .slice x.p3.a x.p3.n x.p3.c, .slice x.p4.a x.p4.n x.p4.c] 29)) := (Below.refl _ _).alloc (Nat.le_refl _) _
  have H : Hid (DBox (w.alloc (.cells #[.slice x.p1.a x.p1.n x.p1.c, .slice x.p2.a x.p2.n x.p2.c, .slice x.p3.a x.p3.n x.p3.c, .slice x.p4.a x.p4.n x.p4.c] 29)) w.heap.size x ∧ DRd (w.alloc (.cells #[.slice x.p1.a x.p1.n x.p1.c, .slice x.p2.a x.p2.n x.p2.c, .slice x.p3.a x.p3.n x.p3.c, .slice x.p4.a x.p4.n x.p4.c] 29)) x d ∧ Below w.heap.size w (w.alloc (.cells #[.slice x.p1.a x.p1.n x.p1.c, .slice x.p2.a x.p2.n x.p2.c, .slice x.p3.a x.p3.n x.p3.c, .slice x.p4.a x.p4.n x.p4.c] 29))) := ⟨DBox.new w x, h.below hb0, hb0⟩
  have KF : Hid (∀ W, DRd W x d → Calls Tryz.prog 72 #[.int .u16 t, .agg #[.int .i64 (shp t).nn, .int .i64 (shp t).nu, .int .i64 (shp t).nt, .int .i64 (shp t).nr, .int .i64 (shp t).wd], .agg #[.slice x.p1.a x.p1.n x.p1.c, .slice x.p2.a x.p2.n x.p2.c, .slice x.p3.a x.p3.n x.p3.c, .slice x.p4.a x.p4.n x.p4.c]] W fun e w' => e = .returned (.bool (fitsB t d)) ∧ Hid (Below W.heap.size W w')) := fun W hd => fits_any (shp t) t (shp_257 t) x d W hd
  have KZ : Hid (∀ W, DRd W x d → Calls Tryz.prog 74 #[.int .u16 t, .agg #[.int .i64 (shp t).nn, .int .i64 (shp t).nu, .int .i64 (shp t).nt, .int .i64 (shp t).nr, .int .i64 (shp t).wd], .agg #[.slice x.p1.a x.p1.n x.p1.c, .slice x.p2.a x.p2.n x.p2.c, .slice x.p3.a x.p3.n x.p3.c, .slice x.p4.a x.p4.n x.p4.c]] W fun e w' => e = .returned (.int .i64 (sizesF t d : Nat)) ∧ Hid (Below W.heap.size W w')) := fun W hd => sizes_any (shp t) t (shp_wd t) x d W hd hB
  have KO : Hid (∀ W, Calls Tryz.prog 71 #[.int .u16 t] W fun e w' => e = .returned (.tuple #[.agg #[.int .i64 (shp t).nn, .int .i64 (shp t).nu, .int .i64 (shp t).nt, .int .i64 (shp t).nr, .int .i64 (shp t).wd], .bool (mayT t)]) ∧ Hid (Below W.heap.size W w')) := fun W => of_any t W
  have hc1 : x.p1.n ≤ 9223372036854775807 := Nat.le_trans h.h1.cap.1 h.h1.cap.2
  have HL : Hid (d.ns.length = x.p1.n) := h.h1.len
  have HNB : Hid (∀ n ∈ d.ns, nsz n ≤ 1000000000000000) := by
    intro n hn
    have h1 := nsz_mem_sum d.ns n hn
    unfold sizesF at hB
    omega
  have HQ : Hid (checkF t d = if mayT t then (if fitsB t d then (if nsErr d.ns = 0 then (if 65535 < sizesF t d then 3 else 0) else nsErr d.ns) else 7) else 6) := (show _ = _ from rfl)
  obtain ⟨C, hC⟩ : ∃ C, checkF t d = C := ⟨_, rfl⟩
  rw [hC] at HQ ⊢
  clear hC h hb0
  generalize (shp t) = s at *
  generalize hmay : mayT t = mt at *
  generalize hfit : fitsB t d = ft at *
  generalize hsz : sizesF t d = sz at *
  clear hmay hfit hsz
  obtain ⟨nn, nu, nt, nr, wd⟩ := s
  obtain ⟨⟨a1, n1, k1⟩, ⟨a2, n2, k2⟩, ⟨a3, n3, k3⟩, ⟨a4, n4, k4⟩⟩ := x
  simp only at H KF KZ KO hc1 HL ⊢
  go_enter Tryz.func38, Tryz.ntmps38
  go_wp2_with fail
  generalize (w.alloc (.cells #[.slice a1 n1 k1, .slice a2 n2 k2, .slice a3 n3 k3, .slice a4 n4 k4] 29)) = W1 at *
  obtain ⟨b, hb⟩ : ∃ b, b = w.heap.size := ⟨_, rfl⟩
  rw [← hb] at H ⊢
  have Hb : Hid (b = w.heap.size) := hb
  clear hb
  refine (KO.out W1).mono ?_
  rintro e W2 ⟨rfl, H2⟩
  have H3 : Hid (CkSt w (W2.alloc (.cells #[.int .i64 nn, .int .i64 nu, .int .i64 nt, .int .i64 nr, .int .i64 wd] 107)) b W2.heap.size ⟨nn, nu, nt, nr, wd⟩ ⟨⟨a1, n1, k1⟩, ⟨a2, n2, k2⟩, ⟨a3, n3, k3⟩, ⟨a4, n4, k4⟩⟩ d) := CkSt.new ⟨nn, nu, nt, nr, wd⟩ (H.out.1.below H2.out) (H.out.2.1.below H2.out) (by have := H.out.2.2; rw [Hb.out] at this; exact this.trans (H2.out.mono this.size))
  clear H H2 KO
  cases mt with
  | false =>
    have HE : Hid (C = 6) := by show C = 6; have := HQ.out; simpa using this
    clear HQ KF KZ
    go_wp2_with fail
    go_ret
    exact ⟨by rw [HE.out]; rfl, H3.out.2.2.2⟩
  | true =>
    go_upto_region 4 with fail
    generalize (W2.alloc (.cells #[.int .i64 nn, .int .i64 nu, .int .i64 nt, .int .i64 nr, .int .i64 wd] 107)) = W3 at *
    generalize W2.heap.size = g at *
    have s0 := H3.out.2.1.1
    have s1 := H3.out.2.1.2.1
    have s2 := H3.out.2.1.2.2.1
    have s3 := H3.out.2.1.2.2.2.1
    have s4 := H3.out.2.1.2.2.2.2.1
    have c0 := H3.out.1.1
    have c1 := H3.out.1.2.1
    have c2 := H3.out.1.2.2.1
    have c3 := H3.out.1.2.2.2.1
    simp only at s0 s1 s2 s3 s4 c0 c1 c2 c3
    go_wp2_with fail
    refine (KF.out W3 H3.out.2.2.1).mono ?_
    rintro e W4 ⟨rfl, H4⟩
    have H5 : Hid (CkSt w W4 b g ⟨nn, nu, nt, nr, wd⟩ ⟨⟨a1, n1, k1⟩, ⟨a2, n2, k2⟩, ⟨a3, n3, k3⟩, ⟨a4, n4, k4⟩⟩ d) := H3.out.go H4.out
    clear H3 H4 KF s0 s1 s2 s3 s4 c0 c1 c2 c3
    cases ft with
    | false =>
      have HE : Hid (C = 7) := by show C = 7; have := HQ.out; simpa using this
      clear HQ KZ
      go_wp2_with fail
      go_ret
      exact ⟨by rw [HE.out]; rfl, H5.out.2.2.2⟩
    | true =>
      have HQ2 : Hid (C = if nsErr d.ns = 0 then (if 65535 < sz then 3 else 0) else nsErr d.ns) := by show C = _; have := HQ.out; simpa using this
      clear HQ
      go_wp2_with fail
      go_loopw [7] (fun i wr => wr = W4 ∧ ∃ k : Nat, k ≤ n1 ∧ i = .int .i64 (k : Int) ∧ Hid (∀ n ∈ d.ns.take k, nck n = 0)) (fun i _ => n1 - (intOf i).toNat)
      case atStart => exact ⟨rfl, 0, Nat.zero_le _, rfl, by intro n hn; simp at hn⟩
      case round =>
        obtain ⟨hwr, k, hk, rfl, HA⟩ := hrel
        subst hwr
        have c0 := H5.out.1.1
        simp only at c0
        by_cases hlt : k < n1
        · have hlt' : (k : Int) < (n1 : Int) := by omega
          have hki : k < d.ns.length := by rw [HL.out]; exact hlt
          obtain ⟨B1, o1, ha1, hl1, z1, hz1, hr1⟩ := H5.out.2.2.1.h1.at k hki
          simp only at ha1
          subst ha1
          have HD : Hid (nsErr d.ns = if nck d.ns[k] = 0 then nsErr (d.ns.drop (k + 1)) else nck d.ns[k]) := by
            show _ = _
            rw [nsErr_drop d.ns k HA.out, List.drop_eq_getElem_cons hki]
            rfl
          have HA2 : Hid (nck d.ns[k] = 0 → ∀ n ∈ d.ns.take (k + 1), nck n = 0) := by
            intro h0 n hn
            rw [List.take_succ_eq_append_getElem hki] at hn
            simp only [List.mem_append, List.mem_singleton] at hn
            rcases hn with hn | rfl
            · exact HA.out n hn
            · exact h0
          have KC : Hid (∀ W, W = wr → Calls Tryz.prog 73 #[.slice z1.a z1.n z1.c] W fun e w' => e = .returned (.int .i64 (nck d.ns[k])) ∧ w' = W) := by
            intro W e
            subst e
            exact refcheck_any z1.a z1.n z1.c d.ns[k] W hr1.rd hr1.len (HNB.out _ (List.getElem_mem _)) (Nat.le_trans hr1.cap.1 hr1.cap.2) hr1.z63
          clear hr1 HA
          generalize nck d.ns[k] = q at *
          generalize z1.a = za at *
          generalize z1.n = zn at *
          generalize z1.c = zc at *
          by_cases hq : q = 0
          · have hq' : (q != 0) = false := by simp [hq]
            have HA3 := HA2.out hq
            have HA4 : Hid (∀ n ∈ d.ns.take (k + 1), nck n = 0) := HA3
            clear HA3 HA2 HD hq
            go_wp2_with fail
            refine (KC.out _ rfl).mono ?_
            rintro e Wx ⟨rfl, rfl⟩
            go_wp2_with fail
            refine ⟨⟨by first | rfl | trivial, k + 1, by omega, by go_num, HA4⟩, ?_⟩
            simp [intOf]; omega
          · have hq' : (q != 0) = true := by simp [hq]
            have HE : Hid (C = q) := by
              have h1 := HQ2.out
              have h2 := HD.out
              rw [if_neg hq] at h2
              rw [h2, if_neg hq] at h1
              exact h1
            clear HA2 HD hq HQ2
            go_wp2_with fail
            refine (KC.out _ rfl).mono ?_
            rintro e Wx ⟨rfl, rfl⟩
            go_wp2_with fail
            go_ret
            exact ⟨by rw [HE.out]; rfl, H5.out.2.2.2⟩
        · have hge : ¬ (k : Int) < (n1 : Int) := by omega
          have HE : Hid (C = if 65535 < sz then 3 else 0) := by
            have h1 := HA.out
            rw [List.take_of_length_le (by rw [HL.out]; omega)] at h1
            have h2 := nsErr_drop d.ns d.ns.length (by rw [List.take_length]; exact h1)
            rw [List.drop_length] at h2
            have h3 := HQ2.out
            rw [h2] at h3
            exact h3
          clear HA HQ2
          have s0 := H5.out.2.1.1
          have s1 := H5.out.2.1.2.1
          have s2 := H5.out.2.1.2.2.1
          have s3 := H5.out.2.1.2.2.2.1
          have s4 := H5.out.2.1.2.2.2.2.1
          have c1 := H5.out.1.2.1
          have c2 := H5.out.1.2.2.1
          have c3 := H5.out.1.2.2.2.1
          simp only at s0 s1 s2 s3 s4 c1 c2 c3
          go_wp2_with fail
          refine (KZ.out wr H5.out.2.2.1).mono ?_
          rintro e W6 ⟨rfl, H6⟩
          have HB7 : Hid (Below w.heap.size w W6) := (H5.out.go H6.out).2.2.2
          clear s0 s1 s2 s3 s4 c0 c1 c2 c3 H6
          by_cases hs : 65535 < sz
          · have hs' : (65535 : Int) < (sz : Int) := by omega
            have HE2 : Hid (C = 3) := by have := HE.out; rw [if_pos hs] at this; exact this
            go_wp2_with fail
            go_ret
            exact ⟨by rw [HE2.out]; rfl, HB7⟩
          · have hs' : ¬ (65535 : Int) < (sz : Int) := by omega
            have HE2 : Hid (C = 0) := by have := HE.out; rw [if_neg hs] at this; exact this
            go_wp2_with fail
            go_ret
            exact ⟨by rw [HE2.out]; rfl, HB7⟩
end Go.Proofs.YtfkfjodfjgjbkaaGreatDoor
/- The document's own answer: a number's bytes. -/
namespace Go.Proofs.YtfkfjodfjgjbkaaGreatDoor
open Go.ChangeShapes Go.WideShapes Go.ChangeAt Go.RowKit
set_option linter.unusedVariables false
set_option linter.unusedSimpArgs false




theorem four_rd (w : World) (p q r s : Int) (hp : 0 ≤ p ∧ p ≤ 255) (hq : 0 ≤ q ∧ q ≤ 255) (hr : 0 ≤ r ∧ r ≤ 255) (hs : 0 ≤ s ∧ s ≤ 255) : Rd (w.alloc (.cells #[.int .u8 p, .int .u8 q, .int .u8 r, .int .u8 s] 5)) (some ⟨w.heap.size, 0, none⟩) [p, q, r, s] := by
  refine ⟨.inr ⟨w.heap.size, 0, rfl, by simp, fun i hi => ?_⟩, ?_⟩
  · simp only [List.length_cons, List.length_nil] at hi
    unfold World.cell?
    rw [heap_alloc_new]
    rcases (show i = 0 ∨ i = 1 ∨ i = 2 ∨ i = 3 by omega) with rfl | rfl | rfl | rfl <;> rfl
  · intro z hz
    simp only [List.mem_cons, List.not_mem_nil, or_false] at hz
    rcases hz with rfl | rfl | rfl | rfl <;> assumption
theorem rd_drop {w : World} {b o : Nat} {zs : List Int} (h : Rd w (some ⟨b, o, none⟩) zs) (k : Nat) : Rd w (some ⟨b, o + k, none⟩) (zs.drop k) := by
  refine ⟨?_, fun z hz => h.2 z (List.mem_of_mem_drop hz)⟩
  rcases h.1 with h1 | ⟨b', o', e, h2, h3⟩
  · left; rw [h1]; simp
  · cases e
    refine .inr ⟨b, o + k, rfl, h2, fun i hi => ?_⟩
    rw [List.length_drop] at hi
    rw [Nat.add_assoc, h3 (k + i) (by omega)]
    simp [List.getD_eq_getElem?_getD]
end Go.Proofs.YtfkfjodfjgjbkaaGreatDoor
/- A list of bytes that is grown; what data that may be are written of. -/
namespace Go.Proofs.YtfkfjodfjgjbkaaGreatDoor
open Go.ChangeShapes Go.WideShapes Go.ChangeAt Go.RowKit
set_option linter.unusedVariables false
set_option linter.unusedSimpArgs false




theorem own_mono {B B' : Nat} {w : World} {v : Value} {n : Nat} {zs : List Int} (h : Own B w v n zs) (hB : B' ≤ B) : Own B' w v n zs := by
  rcases h with h | ⟨g, h1, h2, h3⟩
  · exact .inl h
  · exact .inr ⟨g, h1, Nat.le_trans hB h2, h3⟩
/-- A list of bytes of one's own that is grown, over the world W3. -/
def Gr (W3 W : World) (v : Value) (m : Nat) (L : List Int) : Prop := ∃ ys, Own W3.heap.size W v m ys ∧ ys.take m = L ∧ L.length = m ∧ Below W3.heap.size W3 W
theorem Gr.nil {W3 W : World} (hb : Below W3.heap.size W3 W) : Gr W3 W (.slice none 0 0) 0 [] := ⟨[], .inl ⟨rfl, rfl, rfl⟩, rfl, rfl, hb⟩
theorem Gr.go {W3 W W' : World} {v : Value} {m : Nat} {L : List Int} (h : Gr W3 W v m L) (hb : Below W.heap.size W W') : Gr W3 W' v m L := by
  obtain ⟨ys, h1, h2, h3, h4⟩ := h
  exact ⟨ys, h1.below hb, h2, h3, h4.trans (hb.mono h4.size)⟩
theorem Gr.bel {W3 W : World} {v : Value} {m : Nat} {L : List Int} (h : Gr W3 W v m L) : Below W3.heap.size W3 W := by
  obtain ⟨ys, h1, h2, h3, h4⟩ := h
  exact h4
theorem wp_gr (W3 w : World) {ops : Array Oper} {rest : List Oper} {o : Oper} {a : Act} {Q : Exit → Act → World → Prop} (hgd : o.guard = none) (s x : Operand)
    (ho : o.op = .call { callee := .builtin .append, args := #[s, x], argTypes := #[27, 27] }) (v : Value) (m : Nat) (L : List Int) (hs : a.eval s = v) (hg : Gr W3 w v m L)
    (ao : Option Addr) (q c : Nat) (bs : List Int) (hx : a.eval x = .slice ao q c) (hr : Rd w ao bs) (hl : bs.length = q) (hc : ao = none → c = 0) (hb : m + q ≤ 140737488355328)
    (h : ∀ v' w', Hid (Gr W3 w' v' (m + q) (L ++ bs)) → wpList Tryz.prog ops Q rest (a.put o.dst v') w') : wpList Tryz.prog ops Q (o :: rest) a w := by
  obtain ⟨ys, h1, h2, h3, h4⟩ := hg
  refine wpList_append_blk w hgd s x ho W3.heap.size v m ys hs h1 ao q c bs hx hr hl hc hb h4.size ?_
  intro v' w' ys' hO' hT' hG'
  exact h v' w' ⟨ys', hO'.out, by rw [hT'.out, h2], by rw [List.length_append, h3, hl], h4.grown hG' h4.size h1.lt⟩
theorem wp_grs (W3 w : World) {ops : Array Oper} {rest : List Oper} {o : Oper} {a : Act} {Q : Exit → Act → World → Prop} (hgd : o.guard = none) (s x : Operand)
    (ho : o.op = .call { callee := .builtin .append, args := #[s, x], argTypes := #[27, 9] }) (v : Value) (m : Nat) (L : List Int) (hs : a.eval s = v) (hg : Gr W3 w v m L)
    (t : ByteArray) (hx : a.eval x = .string t) (hb : m + t.size ≤ 140737488355328)
    (h : ∀ v' w', Hid (Gr W3 w' v' (m + t.size) (L ++ nums t)) → wpList Tryz.prog ops Q rest (a.put o.dst v') w') : wpList Tryz.prog ops Q (o :: rest) a w := by
  obtain ⟨ys, h1, h2, h3, h4⟩ := hg
  refine wpList_append_str w hgd s x ho W3.heap.size v m ys hs h1 t hx hb h4.size ?_
  intro v' w' ys' hO' hT' hG'
  exact h v' w' ⟨ys', hO'.out, by rw [hT'.out, h2], by rw [List.length_append, h3, nums_len], h4.grown hG' h4.size h1.lt⟩
theorem st_gr (W3 : World) {ops : Array Oper} {o : Oper} {a : Act} {w : World} {K : Act → World → Prop} {Q : Exit → Act → World → Prop} {E : Prop} (hgd : o.guard = none) (s x : Operand)
    (ho : o.op = .call { callee := .builtin .append, args := #[s, x], argTypes := #[27, 27] }) (v : Value) (m : Nat) (L : List Int) (hs : a.eval s = v) (hg : Gr W3 w v m L)
    (ao : Option Addr) (q c : Nat) (bs : List Int) (hx : a.eval x = .slice ao q c) (hr : Rd w ao bs) (hl : bs.length = q) (hc : ao = none → c = 0) (hb : m + q ≤ 140737488355328)
    (h : ∀ v' w', Hid (Gr W3 w' v' (m + q) (L ++ bs)) → K (a.put o.dst v') w') :
    if Region.wanted o (yielded ops a.tmps) = true then Oper.wp Tryz.prog o a w K Q else E := by
  obtain ⟨ys, h1, h2, h3, h4⟩ := hg
  refine step_append_blk hgd s x ho W3.heap.size v m ys hs h1 ao q c bs hx hr (m + q) hl rfl hc hb h4.size ?_
  intro v' w' ys' hO' hT' hG'
  exact h v' w' ⟨ys', hO'.out, by rw [hT'.out, h2], by rw [List.length_append, h3, hl], h4.grown hG'.out h4.size h1.lt⟩
theorem flat_snoc {α : Type} (f : α → List Int) (l : List α) (k : Nat) (hk : k < l.length) : (l.take (k + 1)).flatMap f = (l.take k).flatMap f ++ f l[k] := by
  rw [List.take_succ_eq_append_getElem hk, List.flatMap_append]; simp
theorem flat_take {α : Type} (f : α → List Int) (l : List α) (k : Nat) : ((l.take k).flatMap f).length ≤ (l.flatMap f).length := by
  conv => rhs; rw [← List.take_append_drop k l, List.flatMap_append, List.length_append]
  omega
theorem tsB_len (t : Nat) (l : List ByteArray) : (tsB t l).length = tsz t l := by
  unfold tsB tsz
  split
  · rfl
  · cases l with
    | nil => rfl
    | cons s r => simp [nums_len]; omega
theorem tsB_snoc (t : Nat) (l : List ByteArray) (s : ByteArray) : tsB t (l ++ [s]) = tsB t l ++ (if t = 16 ∨ l = [] then [(s.size : Int)] else []) ++ nums s := by
  unfold tsB
  by_cases h : t = 16
  · rw [if_pos h, if_pos h, if_pos (.inl h), nby_snoc]
  · rw [if_neg h, if_neg h]
    cases l with
    | nil => simp
    | cons x r => simp [h]
/-- What data that may be are written of. -/
structure Wrt (t : Nat) (d : Dat) : Prop where
  nu : ∀ u ∈ d.us, u ≤ most (shp t).wd ∧ ((shp t).wd = 1 ∨ (shp t).wd = 2 ∨ (shp t).wd = 4)
  nm : ∀ n ∈ d.ns, nck n = 0
  tx : ∀ k (h : k < d.ts.length), (t = 16 ∨ k = 0) → d.ts[k].size ≤ 255
  sz : (d.us.flatMap (fun n => numB n (shp t).wd)).length + (d.ns.flatMap nmB).length + (tsB t d.ts).length + d.raw.length ≤ 65535
  soa : t = 6 → d.ns.length = 2 ∧ d.ts = [] ∧ d.raw = []
theorem nums_flat (us : List Nat) (wd : Nat) (h : us = [] ∨ wd = 1 ∨ wd = 2 ∨ wd = 4) : (us.flatMap (fun n => numB n wd)).length = us.length * wd := by
  rcases h with rfl | h
  · simp
  · induction us with
    | nil => simp
    | cons u r ih => rw [List.flatMap_cons, List.length_append, ih, numB_len u wd h, List.length_cons, Nat.add_mul]; omega
theorem names_flat (ns : List (List ByteArray)) : (ns.flatMap nmB).length = (ns.map nsz).sum := by
  induction ns with
  | nil => rfl
  | cons n r ih => rw [List.flatMap_cons, List.length_append, ih, nmB_len]; rfl
theorem wrt_of {t : Nat} {d : Dat} (h : checkF t d = 0) : Wrt t d := by
  obtain ⟨h1, h2, h3, h4⟩ := check_parts h
  have hf := (fit_iff t d).1 h2
  obtain ⟨fns, fus, fts, ft1, fraw, fun_, ftx, ftg⟩ := hf
  have hwd : d.us = [] ∨ ((shp t).wd = 1 ∨ (shp t).wd = 2 ∨ (shp t).wd = 4) := by
    rcases shp_cases t with ⟨_, e⟩ | ⟨_, e⟩ | ⟨_, e⟩ | ⟨_, e⟩ | ⟨_, e⟩ | ⟨_, e⟩ | ⟨_, e⟩ | ⟨_, e⟩ | ⟨_, e⟩ <;> rw [e] at fus ⊢ <;> simp only at fus ⊢ <;> first | exact .inl (len0 fus) | (right; decide)
  refine ⟨?_, h3, ?_, ?_, ?_⟩
  · intro u hu
    refine ⟨fun_ u hu, ?_⟩
    rcases hwd with h | h
    · rw [h] at hu; simp at hu
    · exact h
  · intro k hk hor
    by_cases h16 : t = 16
    · exact ftx h16 _ (List.getElem_mem hk)
    · have hk0 : k = 0 := hor.resolve_left h16
      subst hk0
      by_cases h257 : t = 257
      · have htg := ftg h257
        unfold tagB at htg
        simp only [Bool.and_eq_true, decide_eq_true_eq] at htg
        have e : d.ts.getD 0 ⟨#[]⟩ = d.ts[0] := by simp [List.getD_eq_getElem?_getD, hk]
        rw [e] at htg
        omega
      · have h0 : (shp t).nt = 0 := by
          rcases shp_cases t with ⟨_, e⟩ | ⟨_, e⟩ | ⟨_, e⟩ | ⟨_, e⟩ | ⟨_, e⟩ | ⟨_, e⟩ | ⟨h', e⟩ | ⟨h', e⟩ | ⟨_, e⟩ <;> first | exact absurd h' h16 | exact absurd h' h257 | rw [e]
        rw [h0] at fts
        omega
  · rw [nums_flat d.us _ hwd, names_flat, tsB_len]
    unfold sizesF at h4
    omega
  · intro h6
    subst h6
    refine ⟨fns, len0 ?_, len0 ?_⟩
    · rcases fts with h | h
      · exact absurd h (by decide)
      · have e : (shp 6).nt = 0 := rfl
        rw [e] at h; omega
    · rcases fraw with h | h
      · exact absurd h (by decide)
      · have e : (shp 6).nr = 0 := rfl
        rw [e] at h; omega
theorem rd_none {w : World} {zs : List Int} (h : Rd w none zs) : zs = [] := by
  rcases h.1 with h1 | ⟨b, o, e, _⟩
  · exact h1
  · cases e
end Go.Proofs.YtfkfjodfjgjbkaaGreatDoor
/- The reader of octets, for names. -/
namespace Go.Proofs.YtfkfjodfjgjbkaaGreatDoor
open Go.ChangeShapes Go.WideShapes Go.ChangeAt Go.RowKit
set_option linter.unusedVariables false
set_option linter.unusedSimpArgs false




theorem neq_ptr_same (a : Addr) (w : World) : (binOp .neq 172 (.pointer (some a)) (.pointer (some a))).run Tryz.prog w = .ok (.bool false) w := by
  obtain ⟨j, hi⟩ : ∃ j, Tryz.prog.info? 197 = some j := Option.isSome_iff_exists.1 (by kernel_rfl)
  have h : ∀ d : Nat, (Op.equalIn (d + 1) 172 (.pointer (some a)) (.pointer (some a))).run Tryz.prog w = .ok true w := fun d => by
    simp [Op.equalIn, run_underlying Tryz.underlying172, sizeOf, typeInfo, hi, run_sameAddr_same]
  simp only [binOp]
  simp [Op.equal, Op.maxDepth, h 9999]
theorem view0 (a b c d : Value) (w : World) : (Instr.field 202 (.agg #[a, b, c, d]) 0).run Tryz.prog w = .ok a w := by kernel_rfl
theorem view1 (a b c d : Value) (w : World) : (Instr.field 202 (.agg #[a, b, c, d]) 1).run Tryz.prog w = .ok b w := by kernel_rfl
theorem view2 (a b c d : Value) (w : World) : (Instr.field 202 (.agg #[a, b, c, d]) 2).run Tryz.prog w = .ok c w := by kernel_rfl
theorem view3 (a b c d : Value) (w : World) : (Instr.field 202 (.agg #[a, b, c, d]) 3).run Tryz.prog w = .ok d w := by kernel_rfl
theorem slice_is_nil (a : Option Addr) (n c : Nat) (w : World) : (binOp .eql 27 (.slice a n c) (.slice none 0 0)).run Tryz.prog w = .ok (.bool a.isNone) w := Lib.run_eql_slice_nil w _ _ _ _ _ _ _ Tryz.underlying27
attribute [local go_sem] view0 view1 view2 view3 slice_is_nil

set_option maxRecDepth 100000 in
set_option maxHeartbeats 400000 in
theorem number_any (a : Option Addr) (len cap : Nat) (zs : List Int) (w : World) (hr : Rd w a zs) (hl : zs.length = len) (hm : len ≤ 4) :
    Calls Tryz.prog 195 #[.slice a len cap] w fun e w' => e = .returned (.int .u32 (val zs)) ∧ w' = w := by
  have HL : Hid (zs.length = len) := hl
  have HR : Hid (Rd w a zs) := hr
  clear hl hr
  go_enter Tryz.func195, Tryz.ntmps195
  go_wp2
  go_loop [3, 8] (fun n i => ∃ k : Nat, k ≤ len ∧ i = .int .i64 k ∧ n = .int .u32 (val (zs.take k))) (fun _ i => len - (intOf i).toNat)
  case atStart => exact ⟨0, Nat.zero_le _, rfl, rfl⟩
  case round =>
    obtain ⟨k, hk, rfl, rfl⟩ := hrel
    by_cases hlt : k < len
    · rcases HR.out.1 with h1 | ⟨b, o, rfl, h1, h2⟩
      · have := HL.out; subst h1; simp at this; omega
      · have hc := h2 k (by rw [HL.out]; exact hlt)
        have hb := HR.out.bd k
        have hv := val_small zs HR.out.2 k (by omega)
        clear h2
        have hlt' : (k : Int) < (len : Int) := by omega
        go_wp2
        go_round
        case rel =>
          refine ⟨k + 1, by omega, by go_num, ?_⟩
          rw [take_snoc zs k (by rw [HL.out]; exact hlt), val_snoc, ← List.getD_eq_getElem?_getD, u32_join _ _ hv.1 hv.2 hb.1 hb.2]
        case measure => simp [intOf]; omega
    · obtain rfl : k = len := by omega
      go_wp2
      go_ret
      have : zs.take k = zs := List.take_of_length_le (by rw [HL.out]; exact Nat.le_refl _)
      rw [this]
      exact ⟨rfl, rfl⟩
theorem number_none (w : World) : Calls Tryz.prog 195 #[.slice none 0 0] w fun e w' => e = .returned (.int .u32 0) ∧ w' = w :=
  number_any none 0 0 [] w ⟨.inl rfl, by simp⟩ rfl (by omega)
end Go.Proofs.YtfkfjodfjgjbkaaGreatDoor
/- The reader of octets, for names. -/
namespace Go.Proofs.YtfkfjodfjgjbkaaGreatDoor
open Go.ChangeShapes Go.WideShapes Go.ChangeAt Go.RowKit
set_option linter.unusedVariables false
set_option linter.unusedSimpArgs false
attribute [local go_sem] view0 view1 view2 view3 slice_is_nil


/-- A reader's block: itself, its bytes, its place, whether it is bad. -/
def RBlk (w : World) (g : Nat) (t : Value) (k : Int) (bad : Bool) : Prop :=
  w.heap[g]? = some (.cells #[.pointer (some ⟨g, 0, none⟩), t, .int .i64 k, .bool bad] 197 (0, 0))
theorem RBlk.lt {w : World} {g : Nat} {t : Value} {k : Int} {bad : Bool} (h : RBlk w g t k bad) : g < w.heap.size := (Array.getElem?_eq_some_iff.1 h).1
theorem RBlk.c0 {w : World} {g : Nat} {t : Value} {k : Int} {bad : Bool} (h : RBlk w g t k bad) : w.cell? ⟨g, 0, none⟩ = some (.pointer (some ⟨g, 0, none⟩)) := by
  have h' : w.heap[g]? = _ := h
  simp [World.cell?, h']
theorem RBlk.c1 {w : World} {g : Nat} {t : Value} {k : Int} {bad : Bool} (h : RBlk w g t k bad) : w.cell? ⟨g, 1, none⟩ = some t := by
  have h' : w.heap[g]? = _ := h
  simp [World.cell?, h']
theorem RBlk.c2 {w : World} {g : Nat} {t : Value} {k : Int} {bad : Bool} (h : RBlk w g t k bad) : w.cell? ⟨g, 2, none⟩ = some (.int .i64 k) := by
  have h' : w.heap[g]? = _ := h
  simp [World.cell?, h']
theorem RBlk.c3 {w : World} {g : Nat} {t : Value} {k : Int} {bad : Bool} (h : RBlk w g t k bad) : w.cell? ⟨g, 3, none⟩ = some (.bool bad) := by
  have h' : w.heap[g]? = _ := h
  simp [World.cell?, h']
theorem RBlk.fz {w : World} {g : Nat} {t : Value} {k : Int} {bad : Bool} (h : RBlk w g t k bad) (i : Nat) : w.frozen? ⟨g, i, none⟩ = false := by
  have h' : w.heap[g]? = _ := h
  simp [World.frozen?, h']
theorem RBlk.same {w w' : World} {g : Nat} {t : Value} {k : Int} {bad : Bool} (h : RBlk w g t k bad) (hb : w'.heap[g]? = w.heap[g]?) : RBlk w' g t k bad := hb.trans h
theorem RBlk.at {w : World} {g : Nat} {t : Value} {k : Int} {bad : Bool} (h : RBlk w g t k bad) (k' : Int) : RBlk (w.setCell ⟨g, 2, none⟩ (.int .i64 k')) g t k' bad := heap_set h 2 _
set_option maxRecDepth 100000 in
set_option maxHeartbeats 400000 in
theorem piece_in (a : Option Addr) (len cap at_ n : Nat) (zs : List Int) (w : World) (hr : Rd w a zs) (hl : zs.length = len) (hc : len ≤ cap) (hm : len ≤ 140737488355328) (hn : at_ + n ≤ len) :
    Calls Tryz.prog 196 #[.slice a len cap, .int .i64 at_, .int .i64 n] w fun e w' => (∃ a', e = .returned (.tuple #[.slice a' n (cap - at_), .bool true]) ∧ Hid ((∀ W, Rd W a zs → Rd W a' ((zs.drop at_).take n)) ∧ (a' = none → a = none))) ∧ w' = w := by
  have HL : Hid (zs.length = len) := hl
  have HR : Hid (Rd w a zs) := hr
  clear hl hr
  have h1 : ¬ (at_ : Int) < 0 := by omega
  have h2 : (at_ : Int) ≤ (len : Int) := by omega
  have h3 : ¬ (n : Int) < 0 := by omega
  have h4 : (n : Int) ≤ (len : Int) - (at_ : Int) := by omega
  go_enter Tryz.func196, Tryz.ntmps196
  go_wp2
  · go_ret2
    exact ⟨⟨_, rfl, fun W hW => hW.cut at_ n (by rw [HL.out]; exact hn) (fun h b o e => absurd h (by omega)), fun e => e⟩, rfl⟩
  · go_ret2
    exact ⟨⟨_, rfl, fun W hW => hW.cut at_ n (by rw [HL.out]; exact hn) (fun h b o e => by subst e; simp [Addr.add]), fun e => Option.map_eq_none_iff.1 e⟩, rfl⟩
set_option maxRecDepth 100000 in
set_option maxHeartbeats 400000 in
theorem piece_out (a : Option Addr) (len cap : Nat) (at_ n : Int) (w : World) (hm : len ≤ 140737488355328)
    (h : at_ < 0 ∨ (0 ≤ at_ ∧ (len : Int) < at_) ∨ (0 ≤ at_ ∧ at_ ≤ (len : Int) ∧ n < 0) ∨ (0 ≤ at_ ∧ at_ ≤ (len : Int) ∧ 0 ≤ n ∧ (len : Int) - at_ < n)) :
    Calls Tryz.prog 196 #[.slice a len cap, .int .i64 at_, .int .i64 n] w fun e w' => e = .returned (.tuple #[.slice none 0 0, .bool false]) ∧ w' = w := by
  rcases h with h | ⟨h0, h⟩ | ⟨h0, h1, h⟩ | ⟨h0, h1, h2, h⟩
  · go_enter Tryz.func196, Tryz.ntmps196
    go_wp2
    go_ret2
    exact ⟨rfl, rfl⟩
  · go_enter Tryz.func196, Tryz.ntmps196
    go_wp2
    go_ret2
    exact ⟨rfl, rfl⟩
  · go_enter Tryz.func196, Tryz.ntmps196
    go_wp2
    go_ret2
    exact ⟨rfl, rfl⟩
  · go_enter Tryz.func196, Tryz.ntmps196
    go_wp2
    go_ret2
    exact ⟨rfl, rfl⟩
/-- The text lies elsewhere than the reader. -/
def Off (a : Option Addr) (g : Nat) : Prop := ∀ b o, a = some ⟨b, o, none⟩ → b ≠ g
theorem Rd.grown {w w' : World} {a : Option Addr} {zs : List Int} {g : Nat} (h : Rd w a zs) (hg : w.grownBy w' (some g)) (ho : Off a g) : Rd w' a zs := by
  refine ⟨?_, h.2⟩
  rcases h.1 with h1 | ⟨b, o, rfl, h1, h2⟩
  · exact .inl h1
  · refine .inr ⟨b, o, rfl, Nat.lt_of_lt_of_le h1 hg.size, fun i hi => ?_⟩
    rw [← h2 i hi]
    exact World.cell?_of_block (w := w) (a := ⟨b, o + i, none⟩) (hg.block b h1 (fun e => ho b o rfl (Option.some.inj e)))
/-- The world in which a good reader has moved: its place is set, a new block is there for the answer. -/
theorem moved (g : Nat) (t : Value) (k k' : Int) (w : World) (hb : RBlk w g t k false) (cs : Array Value) :
    RBlk ((w.setCell ⟨g, 2, none⟩ (.int .i64 k')).alloc (.cells cs 202)) g t k' false ∧ ((w.setCell ⟨g, 2, none⟩ (.int .i64 k')).alloc (.cells cs 202)).heap[w.heap.size]? = some (.cells cs 202 (0, 0)) ∧
    w.grownBy ((w.setCell ⟨g, 2, none⟩ (.int .i64 k')).alloc (.cells cs 202)) (some g) ∧ ((w.setCell ⟨g, 2, none⟩ (.int .i64 k')).alloc (.cells cs 202)).heap.size = w.heap.size + 1 := by
  have hsz : (w.setCell ⟨g, 2, none⟩ (.int .i64 k')).heap.size = w.heap.size := by simp [World.setCell]
  have hold : ∀ j, j < w.heap.size → ((w.setCell ⟨g, 2, none⟩ (.int .i64 k')).alloc (.cells cs 202)).heap[j]? = (w.setCell ⟨g, 2, none⟩ (.int .i64 k')).heap[j]? := fun j hj => Below.heap_alloc _ _ j (by rw [hsz]; exact hj)
  refine ⟨(hb.at k').same (hold g hb.lt), ?_, ⟨rfl, rfl, rfl, by simp [hsz], fun j hj hne => ?_⟩, by simp [hsz]⟩
  · have := heap_alloc_new (w.setCell ⟨g, 2, none⟩ (.int .i64 k')) (.cells cs 202)
    rw [hsz] at this
    exact this
  · rw [hold j hj]
    exact Below.heap_setCell _ _ _ j (fun e => hne (by rw [e]))
theorem cells4 {w : World} {s : Nat} {a b c d : Value} {t : TypeId} (h : w.heap[s]? = some (.cells #[a, b, c, d] t (0, 0))) :
    w.cell? ⟨s, 0, none⟩ = some a ∧ w.cell? ⟨s, 1, none⟩ = some b ∧ w.cell? ⟨s, 2, none⟩ = some c ∧ w.cell? ⟨s, 3, none⟩ = some d ∧ ∀ i, w.frozen? ⟨s, i, none⟩ = false := by
  simp [World.cell?, World.frozen?, h]
/-- Behind what is written into the new block nothing else has turned. -/
theorem moved_end {w W1 : World} {g s : Nat} {t : Value} {k' : Int} {bad : Bool} (h : RBlk W1 g t k' bad ∧ w.grownBy W1 (some g)) (hs : w.heap.size = s) (hg : g < s) (x0 x1 x2 x3 : Value) :
    RBlk ((((W1.setCell ⟨s, 0, none⟩ x0).setCell ⟨s, 1, none⟩ x1).setCell ⟨s, 2, none⟩ x2).setCell ⟨s, 3, none⟩ x3) g t k' bad ∧
    w.grownBy ((((W1.setCell ⟨s, 0, none⟩ x0).setCell ⟨s, 1, none⟩ x1).setCell ⟨s, 2, none⟩ x2).setCell ⟨s, 3, none⟩ x3) (some g) := by
  have hold : ∀ j, j < s → ((((W1.setCell ⟨s, 0, none⟩ x0).setCell ⟨s, 1, none⟩ x1).setCell ⟨s, 2, none⟩ x2).setCell ⟨s, 3, none⟩ x3).heap[j]? = W1.heap[j]? := by
    intro j hj
    have hne : j ≠ s := by omega
    rw [Below.heap_setCell _ _ _ j hne, Below.heap_setCell _ _ _ j hne, Below.heap_setCell _ _ _ j hne, Below.heap_setCell _ _ _ j hne]
  refine ⟨h.1.same (hold g hg), h.2.os, h.2.tape, h.2.output, ?_, fun j hj hne => (hold j (by omega)).trans (h.2.block j hj hne)⟩
  have := h.2.size
  simpa [World.setCell] using this
set_option maxRecDepth 100000 in
set_option maxHeartbeats 1000000 in
theorem move_here (g : Nat) (a : Option Addr) (len cap k n : Nat) (zs : List Int) (w : World) (hb : RBlk w g (.slice a len cap) k false) (hr : Rd w a zs) (hl : zs.length = len) (hc : len ≤ cap) (hm : len ≤ 140737488355328) (hn : k + n ≤ len) (ho : Off a g) :
    Calls Tryz.prog 184 #[.pointer (some ⟨g, 0, none⟩), .int .u8 0, .int .i64 n] w fun e w' => ∃ ov, e = .returned (.agg #[.slice ov n (cap - k), .int .i64 ((k : Int) + (n : Int)), .int .i64 ((len : Int) - ((k : Int) + (n : Int))), .bool false]) ∧
      Hid (Rd w' ov ((zs.drop k).take n) ∧ (ov = none → a = none) ∧ RBlk w' g (.slice a len cap) ((k : Int) + (n : Int)) false ∧ w.grownBy w' (some g)) := by
  have HB : Hid (RBlk w g (.slice a len cap) k false) := hb
  have HR : Hid (Rd w a zs) := hr
  have HL : Hid (zs.length = len) := hl
  have HO : Hid (Off a g) := ho
  have hg := hb.lt
  have c0 := hb.c0
  have c1 := hb.c1
  have c2 := hb.c2
  have c3 := hb.c3
  have f2 := hb.fz 2
  have hne := neq_ptr_same ⟨g, 0, none⟩
  clear hb hr hl ho
  go_enter Tryz.func184, Tryz.ntmps184
  go_wp2_with fail
  refine (piece_in a len cap k n zs _ (HR.out.below ((Below.refl _ _).alloc (Nat.le_refl _) _)) HL.out hc hm hn).mono ?_
  rintro e w' ⟨⟨ov, rfl, H1⟩, rfl⟩
  go_wp2_with fail
  have hkn : (k : Int) + (n : Int) ≤ (len : Int) := by omega
  have hw : IntKind.i64.wrap ((len : Int) - ((k : Int) + (n : Int))) = (len : Int) - ((k : Int) + (n : Int)) := by rw [IntKind.wrap_i64]; omega
  have hgw : ¬ w.heap.size = g := by omega
  obtain ⟨m1, m2, m3, m4⟩ := moved g (.slice a len cap) k ((k : Int) + (n : Int)) w HB.out #[.slice none 0 0, .int .i64 0, .int .i64 0, .bool false]
  obtain ⟨v0, v1, v2, v3, v4⟩ := cells4 m2
  have d1 := m1.c1
  have d2 := m1.c2
  have HM : Hid (RBlk ((w.setCell ⟨g, 2, none⟩ (.int .i64 ((k : Int) + (n : Int)))).alloc (.cells #[.slice none 0 0, .int .i64 0, .int .i64 0, .bool false] 202)) g (.slice a len cap) ((k : Int) + (n : Int)) false ∧ w.grownBy ((w.setCell ⟨g, 2, none⟩ (.int .i64 ((k : Int) + (n : Int)))).alloc (.cells #[.slice none 0 0, .int .i64 0, .int .i64 0, .bool false] 202)) (some g)) := ⟨m1, m3⟩
  clear m1 m2 m3 c0 c1 c2 c3 f2 hne
  generalize (w.setCell ⟨g, 2, none⟩ (.int .i64 ((k : Int) + (n : Int)))).alloc (.cells #[.slice none 0 0, .int .i64 0, .int .i64 0, .bool false] 202) = W1 at *
  generalize hs : w.heap.size = s at *
  have HS : Hid (w.heap.size = s) := hs
  clear hs
  have v4a := v4 0
  have v4b := v4 1
  have v4c := v4 2
  have v4d := v4 3
  clear v4
  go_region_held3 (fun W => W.cell? ⟨g, 1, none⟩ = some (.slice a len cap) ∧ W.cell? ⟨g, 2, none⟩ = some (.int .i64 ((k : Int) + (n : Int)))) (go_keep) (fail)
  go_wp2
  obtain ⟨h1, h2⟩ := H1.out
  have hM := moved_end HM.out HS.out (by omega) (.slice ov n (cap - k)) (.int .i64 ((k : Int) + (n : Int))) (.int .i64 ((len : Int) - ((k : Int) + (n : Int)))) (.bool false)
  have hR := h1 _ (HR.out.grown hM.2 HO.out)
  clear h1
  refine bodyPost_ret (v := .agg #[.slice ov n (cap - k), .int .i64 ((k : Int) + (n : Int)), .int .i64 ((len : Int) - ((k : Int) + (n : Int))), .bool false]) ?_ rfl ⟨ov, rfl, hR, h2, hM.1, hM.2.os, hM.2.tape, hM.2.output, hM.2.size, hM.2.block⟩
  clear hM hR HM H1 HR HO
  simp [results, Tryz.results134, go_sem, *]
theorem spoilt (g : Nat) (t : Value) (k : Int) (w : World) (hb : RBlk w g t k false) (cs : Array Value) :
    RBlk (((((w.setCell ⟨g, 0, none⟩ (.pointer (some ⟨g, 0, none⟩))).setCell ⟨g, 1, none⟩ (.slice none 0 0)).setCell ⟨g, 2, none⟩ (.int .i64 0)).setCell ⟨g, 3, none⟩ (.bool true)).alloc (.cells cs 202)) g (.slice none 0 0) 0 true ∧
    w.grownBy (((((w.setCell ⟨g, 0, none⟩ (.pointer (some ⟨g, 0, none⟩))).setCell ⟨g, 1, none⟩ (.slice none 0 0)).setCell ⟨g, 2, none⟩ (.int .i64 0)).setCell ⟨g, 3, none⟩ (.bool true)).alloc (.cells cs 202)) (some g) := by
  have h4 := heap_set (heap_set (heap_set (heap_set hb 0 (.pointer (some ⟨g, 0, none⟩))) 1 (.slice none 0 0)) 2 (.int .i64 0)) 3 (.bool true)
  have hsz : ((((w.setCell ⟨g, 0, none⟩ (.pointer (some ⟨g, 0, none⟩))).setCell ⟨g, 1, none⟩ (.slice none 0 0)).setCell ⟨g, 2, none⟩ (.int .i64 0)).setCell ⟨g, 3, none⟩ (.bool true)).heap.size = w.heap.size := by simp [World.setCell]
  have hoth : ∀ j, j ≠ g → ((((w.setCell ⟨g, 0, none⟩ (.pointer (some ⟨g, 0, none⟩))).setCell ⟨g, 1, none⟩ (.slice none 0 0)).setCell ⟨g, 2, none⟩ (.int .i64 0)).setCell ⟨g, 3, none⟩ (.bool true)).heap[j]? = w.heap[j]? := by
    intro j hj
    rw [Below.heap_setCell _ _ _ j hj, Below.heap_setCell _ _ _ j hj, Below.heap_setCell _ _ _ j hj, Below.heap_setCell _ _ _ j hj]
  have hlt := hb.lt
  have hgr : w.grownBy ((((w.setCell ⟨g, 0, none⟩ (.pointer (some ⟨g, 0, none⟩))).setCell ⟨g, 1, none⟩ (.slice none 0 0)).setCell ⟨g, 2, none⟩ (.int .i64 0)).setCell ⟨g, 3, none⟩ (.bool true)) (some g) := ⟨rfl, rfl, rfl, by rw [hsz]; exact Nat.le_refl _, fun j _ hne => hoth j (fun e => hne (by rw [e]))⟩
  revert h4 hsz hoth hgr
  generalize ((((w.setCell ⟨g, 0, none⟩ (.pointer (some ⟨g, 0, none⟩))).setCell ⟨g, 1, none⟩ (.slice none 0 0)).setCell ⟨g, 2, none⟩ (.int .i64 0)).setCell ⟨g, 3, none⟩ (.bool true)) = W
  intro h4 hsz hoth hgr
  refine ⟨?_, ?_⟩
  · have : (W.alloc (.cells cs 202)).heap[g]? = W.heap[g]? := Below.heap_alloc _ _ g (by omega)
    exact this.trans (h4.trans (by simp))
  · exact ⟨hgr.os, hgr.tape, hgr.output, by simp; omega, fun j hj hne => (Below.heap_alloc _ _ j (by omega)).trans (hgr.block j hj hne)⟩
set_option maxRecDepth 100000 in
set_option maxHeartbeats 1000000 in
theorem move_here_out (g : Nat) (a : Option Addr) (len cap : Nat) (k n : Int) (w : World) (hb : RBlk w g (.slice a len cap) k false) (hc : len ≤ cap) (hm : len ≤ 140737488355328) (hk : 0 ≤ k ∧ k ≤ len) (hn : n < 0 ∨ (len : Int) < k + n) :
    Calls Tryz.prog 184 #[.pointer (some ⟨g, 0, none⟩), .int .u8 0, .int .i64 n] w fun e w' => e = .returned (.agg #[.slice none 0 0, .int .i64 0, .int .i64 0, .bool true]) ∧
      Hid (RBlk w' g (.slice none 0 0) 0 true ∧ w.grownBy w' (some g)) := by
  have HB : Hid (RBlk w g (.slice a len cap) k false) := hb
  have hg := hb.lt
  have c0 := hb.c0
  have c1 := hb.c1
  have c2 := hb.c2
  have c3 := hb.c3
  have f0 := hb.fz 0
  have f1 := hb.fz 1
  have f2 := hb.fz 2
  have f3 := hb.fz 3
  have hne := neq_ptr_same ⟨g, 0, none⟩
  clear hb
  have HN : Hid (n < 0 ∨ (len : Int) < k + n) := hn
  clear hn
  go_enter Tryz.func184, Tryz.ntmps184
  go_wp2_with fail
  refine (piece_out a len cap k n _ hm (by have := HN.out; omega)).mono ?_
  rintro e w' ⟨rfl, rfl⟩
  go_wp2_with fail
  have hM := spoilt g _ _ w HB.out #[.slice none 0 0, .int .i64 0, .int .i64 0, .bool true]
  exact bodyPost_ret (v := .agg #[.slice none 0 0, .int .i64 0, .int .i64 0, .bool true]) (by simp [results, Tryz.results134, go_sem]) rfl ⟨rfl, hM⟩
set_option maxRecDepth 100000 in
set_option maxHeartbeats 1000000 in
theorem move_isbad (g : Nat) (f n : Int) (t : Value) (k : Int) (w : World) (hb : RBlk w g t k true) :
    Calls Tryz.prog 184 #[.pointer (some ⟨g, 0, none⟩), .int .u8 f, .int .i64 n] w fun e w' => e = .returned (.agg #[.slice none 0 0, .int .i64 0, .int .i64 0, .bool true]) ∧ Below w.heap.size w w' := by
  have hg := hb.lt
  have c0 := hb.c0
  have c3 := hb.c3
  have hne := neq_ptr_same ⟨g, 0, none⟩
  clear hb
  go_enter Tryz.func184, Tryz.ntmps184
  go_wp2
  exact bodyPost_ret (v := .agg #[.slice none 0 0, .int .i64 0, .int .i64 0, .bool true]) (by simp [results, Tryz.results134, go_sem]) rfl ⟨rfl, ((Below.refl _ _).alloc (Nat.le_refl _) _)⟩
end Go.Proofs.YtfkfjodfjgjbkaaGreatDoor
/- The reader of octets, for names. -/
namespace Go.Proofs.YtfkfjodfjgjbkaaGreatDoor
open Go.ChangeShapes Go.WideShapes Go.ChangeAt Go.RowKit
set_option linter.unusedVariables false
set_option linter.unusedSimpArgs false
attribute [local go_sem] view0 view1 view2 view3 slice_is_nil

theorem new_below (w : World) (o : Obj) : Below w.heap.size w (w.alloc o) := (Below.refl _ _).alloc (Nat.le_refl _) _
attribute [local go_sem] view0 view1 view2 view3

/-- A reader's state: its place, or none where it is bad. -/
def RSt (w : World) (g : Nat) (a : Option Addr) (len cap : Nat) : Option Nat → Prop
  | some k => RBlk w g (.slice a len cap) k false ∧ k ≤ len
  | none => RBlk w g (.slice none 0 0) 0 true
/-- What becomes of the state by going on over n bytes, by going to a place; the bytes that are gone over. -/
def mv (len : Nat) (st : Option Nat) (n : Int) : Option Nat := match st with
  | some k => if 0 ≤ n ∧ k + n ≤ len then some (k + n.toNat) else none
  | none => none
def tk (zs : List Int) (st : Option Nat) (n : Int) : List Int := match st with
  | some k => if 0 ≤ n ∧ k + n ≤ zs.length then (zs.drop k).take n.toNat else []
  | none => []
def pos : Option Nat → Int
  | some k => k
  | none => 0
def lft (len : Nat) : Option Nat → Int
  | some k => (len : Int) - (k : Int)
  | none => 0
theorem mv_zero (len : Nat) (st : Option Nat) (h : ∀ k, st = some k → k ≤ len) : mv len st 0 = st := by
  cases st with
  | none => rfl
  | some k => have := h k rfl; simp [mv]; omega
theorem tk_len (zs : List Int) (st : Option Nat) (n : Nat) : (tk zs st n).length ≤ n := by
  unfold tk
  split
  · split
    · simp; omega
    · simp
  · simp
theorem tk_bytes (zs : List Int) (st : Option Nat) (n : Int) (h : ∀ z ∈ zs, 0 ≤ z ∧ z ≤ 255) : ∀ z ∈ tk zs st n, 0 ≤ z ∧ z ≤ 255 := by
  unfold tk
  split
  · split
    · intro z hz; exact h z (List.mem_of_mem_drop (List.mem_of_mem_take hz))
    · simp
  · simp
theorem RSt.le {w : World} {g : Nat} {a : Option Addr} {len cap : Nat} {st : Option Nat} (h : RSt w g a len cap st) : ∀ k, st = some k → k ≤ len := by
  rintro k rfl; exact h.2
theorem RSt.lt {w : World} {g : Nat} {a : Option Addr} {len cap : Nat} {st : Option Nat} (h : RSt w g a len cap st) : g < w.heap.size := by
  cases st with
  | none => exact RBlk.lt h
  | some k => exact RBlk.lt h.1
theorem RSt.same {w w' : World} {g : Nat} {a : Option Addr} {len cap : Nat} {st : Option Nat} (h : RSt w g a len cap st) (hb : w'.heap[g]? = w.heap[g]?) : RSt w' g a len cap st := by
  cases st with
  | none => exact RBlk.same h hb
  | some k => exact ⟨RBlk.same h.1 hb, h.2⟩
theorem below_grown {w w' : World} {row : Option Nat} (h : Below w.heap.size w w') : w.grownBy w' row := ⟨h.os, h.tape, h.output, h.size, fun k hk _ => h.block k hk⟩
theorem move_any (g : Nat) (a : Option Addr) (len cap : Nat) (zs : List Int) (st st' : Option Nat) (n : Int) (c : Nat) (w : World) (hs : RSt w g a len cap st) (hr : Rd w a zs) (hl : zs.length = len) (hc : len ≤ cap) (hm : len ≤ 140737488355328) (hd : a = none → cap = 0) (ho : Off a g)
    (hst : mv len st n = st') (htk : (tk zs st n).length = c) :
    Calls Tryz.prog 184 #[.pointer (some ⟨g, 0, none⟩), .int .u8 0, .int .i64 n] w fun e w' => ∃ ov oc, e = .returned (.agg #[.slice ov c oc, .int .i64 (pos st'), .int .i64 (lft len st'), .bool st'.isNone]) ∧
      Hid (Rd w' ov (tk zs st n) ∧ (ov = none → oc = 0) ∧ RSt w' g a len cap st' ∧ w.grownBy w' (some g)) := by
  subst hst; subst htk
  cases st with
  | none =>
    refine (move_isbad g 0 n _ _ w hs).mono ?_
    rintro e w' ⟨rfl, hb⟩
    exact ⟨none, 0, rfl, ⟨.inl rfl, by simp [tk]⟩, fun _ => rfl, RSt.same (st := none) hs (hb.block g (RBlk.lt hs)), below_grown hb⟩
  | some k =>
    by_cases h : 0 ≤ n ∧ k + n ≤ len
    · obtain ⟨m, rfl⟩ := Int.eq_ofNat_of_zero_le h.1
      have hkm : k + m ≤ len := by omega
      have e1 : mv len (some k) m = some (k + m) := by simp only [mv]; rw [if_pos h]; rfl
      have e2 : tk zs (some k) m = (zs.drop k).take m := by simp only [tk]; rw [if_pos (by rw [hl]; exact h)]; rfl
      have e3 : ((zs.drop k).take m).length = m := by simp; omega
      rw [e1, e2, e3]
      refine (move_here g a len cap k m zs w hs.1 hr hl hc hm hkm ho).mono ?_
      rintro e w' ⟨ov, rfl, H⟩
      obtain ⟨h1, h2, h3, h4⟩ := H.out
      refine ⟨ov, cap - k, by simp [pos, lft], h1, fun e => by rw [hd (h2 e)]; omega, ⟨by simpa using h3, hkm⟩, h4⟩
    · have e1 : mv len (some k) n = none := by simp only [mv]; rw [if_neg h]
      have e2 : tk zs (some k) n = [] := by simp only [tk]; rw [if_neg (by rw [hl]; exact h)]
      rw [e1, e2]
      have hkl := hs.2
      refine (move_here_out g a len cap k n w hs.1 hc hm ⟨by omega, by omega⟩ (by omega)).mono ?_
      rintro e w' ⟨rfl, H⟩
      exact ⟨none, 0, rfl, ⟨.inl rfl, by simp⟩, fun _ => rfl, H.out.1, H.out.2⟩
theorem rbyte_any (g : Nat) (a : Option Addr) (len cap : Nat) (zs : List Int) (st : Option Nat) (w : World) (hs : RSt w g a len cap st) (hr : Rd w a zs) (hl : zs.length = len) (hc : len ≤ cap) (hm : len ≤ 140737488355328) (hd : a = none → cap = 0) (ho : Off a g) :
    Calls Tryz.prog 183 #[.pointer (some ⟨g, 0, none⟩)] w fun e w' => e = .returned (.int .i64 (val (tk zs st 1))) ∧ Hid (RSt w' g a len cap (mv len st 1) ∧ w.grownBy w' (some g)) := by
  have H0 : Hid (RSt w g a len cap st ∧ Rd w a zs ∧ zs.length = len ∧ (a = none → cap = 0) ∧ Off a g) := ⟨hs, hr, hl, hd, ho⟩
  clear hs hr hl hd ho
  obtain ⟨st', hst⟩ : ∃ x, mv len st 1 = x := ⟨_, rfl⟩
  obtain ⟨c, htk⟩ : ∃ x, (tk zs st 1).length = x := ⟨_, rfl⟩
  have hc4 : c ≤ 1 := by have : (tk zs st (1 : Int)).length ≤ 1 := tk_len zs st 1; omega
  have hv := val_small4 (tk zs st 1) (tk_bytes zs st 1 H0.out.2.1.2) (by omega)
  have HT : Hid (mv len st 1 = st' ∧ (tk zs st 1).length = c) := ⟨hst, htk⟩
  clear hst htk
  rw [HT.out.1]
  go_enter Tryz.func183, Tryz.ntmps183
  go_wp2_with fail
  refine (move_any g a len cap zs st st' 1 c _ H0.out.1 H0.out.2.1 H0.out.2.2.1 hc hm H0.out.2.2.2.1 H0.out.2.2.2.2 HT.out.1 HT.out.2).mono ?_
  rintro e w1 ⟨ov, oc, rfl, H1⟩
  go_wp2_with fail
  refine (number_any ov c oc (tk zs st 1) _ H1.out.1 HT.out.2 (by omega)).mono ?_
  rintro e w2 ⟨rfl, rfl⟩
  go_wp2
  go_ret
  exact ⟨by simp, H1.out.2.2.1, H1.out.2.2.2⟩
theorem rtake_any (g : Nat) (a : Option Addr) (len cap : Nat) (zs : List Int) (st : Option Nat) (n : Int) (w : World) (hs : RSt w g a len cap st) (hr : Rd w a zs) (hl : zs.length = len) (hc : len ≤ cap) (hm : len ≤ 140737488355328) (hd : a = none → cap = 0) (ho : Off a g) :
    Calls Tryz.prog 156 #[.pointer (some ⟨g, 0, none⟩), .int .i64 n] w fun e w' => ∃ v ys, e = .returned v ∧ Hid (Own w.heap.size w' v (tk zs st n).length ys ∧ ys.take (tk zs st n).length = tk zs st n ∧ RSt w' g a len cap (mv len st n) ∧ w.grownBy w' (some g)) := by
  have H0 : Hid (RSt w g a len cap st ∧ Rd w a zs ∧ zs.length = len ∧ (a = none → cap = 0) ∧ Off a g) := ⟨hs, hr, hl, hd, ho⟩
  clear hs hr hl hd ho
  obtain ⟨st', hst⟩ : ∃ x, mv len st n = x := ⟨_, rfl⟩
  obtain ⟨c, htk⟩ : ∃ x, (tk zs st n).length = x := ⟨_, rfl⟩
  have HT : Hid (mv len st n = st' ∧ (tk zs st n).length = c) := ⟨hst, htk⟩
  have hcl : c ≤ len := by
    have h1 := H0.out.2.2.1
    rw [← htk]; unfold tk
    split
    · split
      · simp; omega
      · simp
    · simp
  clear hst htk
  rw [HT.out.1, HT.out.2]
  go_enter Tryz.func156, Tryz.ntmps156
  go_wp2_with fail
  refine (move_any g a len cap zs st st' n c _ H0.out.1 H0.out.2.1 H0.out.2.2.1 hc hm H0.out.2.2.2.1 H0.out.2.2.2.2 HT.out.1 HT.out.2).mono ?_
  rintro e w1 ⟨ov, oc, rfl, H1⟩
  cases ov with
  | none =>
    have ec : c = 0 := by
      rw [← HT.out.2]
      rcases H1.out.1.1 with h | ⟨b, o, h, _⟩
      · rw [h]; rfl
      · cases h
    have eo : oc = 0 := H1.out.2.1 rfl
    subst ec; subst eo
    go_wp2_with fail
    refine (clone_none _).mono ?_
    rintro e w2 ⟨rfl, rfl⟩
    go_wp2
    go_ret
    have et : tk zs st n = [] := List.eq_nil_of_length_eq_zero HT.out.2
    exact ⟨_, [], rfl, .inl ⟨rfl, rfl, rfl⟩, by rw [et]; rfl, H1.out.2.2.1, H1.out.2.2.2⟩
  | some x =>
    have HX : Hid (Calls Tryz.prog 178 #[.slice (some x) c oc] w1 fun e w' => ∃ v ys, e = .returned v ∧ Hid (Own w1.heap.size w' v c ys ∧ ys.take c = tk zs st n ∧ Below w1.heap.size w1 w')) := by
      have := clone_any x oc (tk zs st n) w1 H1.out.1 (by rw [HT.out.2]; omega)
      rw [HT.out.2] at this
      exact this
    go_wp2_with fail
    refine HX.out.mono ?_
    rintro e w2 ⟨v, ys, rfl, H2⟩
    go_wp2
    go_ret
    obtain ⟨p1, p2, p3⟩ := H2.out
    have hgs := H1.out.2.2.1.lt
    have hsz := H1.out.2.2.2.size
    refine ⟨v, ys, rfl, ?_, p2, H1.out.2.2.1.same (p3.block g hgs), ?_⟩
    · rcases p1 with h | ⟨g', h1, h2, h3⟩
      · exact .inl h
      · exact .inr ⟨g', h1, by omega, h3⟩
    · have hg := H1.out.2.2.2
      exact ⟨p3.os.trans hg.os, p3.tape.trans hg.tape, p3.output.trans hg.output, Nat.le_trans hg.size p3.size, fun j hj hne => (p3.block j (by omega)).trans (hg.block j hj hne)⟩
theorem rat_any (g : Nat) (a : Option Addr) (len cap : Nat) (zs : List Int) (st : Option Nat) (w : World) (hs : RSt w g a len cap st) (hr : Rd w a zs) (hl : zs.length = len) (hc : len ≤ cap) (hm : len ≤ 140737488355328) (hd : a = none → cap = 0) (ho : Off a g) :
    Calls Tryz.prog 180 #[.pointer (some ⟨g, 0, none⟩)] w fun e w' => e = .returned (.int .i64 (pos st)) ∧ Hid (RSt w' g a len cap st ∧ w.grownBy w' (some g)) := by
  have H0 : Hid (RSt w g a len cap st ∧ Rd w a zs ∧ zs.length = len ∧ (a = none → cap = 0) ∧ Off a g) := ⟨hs, hr, hl, hd, ho⟩
  clear hs hr hl hd ho
  go_enter Tryz.func180, Tryz.ntmps180
  go_wp2_with fail
  refine (move_any g a len cap zs st st 0 _ _ H0.out.1 H0.out.2.1 H0.out.2.2.1 hc hm H0.out.2.2.2.1 H0.out.2.2.2.2 (mv_zero len st H0.out.1.le) rfl).mono ?_
  rintro e w1 ⟨ov, oc, rfl, H1⟩
  go_wp2
  go_ret
  exact ⟨rfl, H1.out.2.2.1, H1.out.2.2.2⟩
theorem rbad_any (g : Nat) (a : Option Addr) (len cap : Nat) (zs : List Int) (st : Option Nat) (w : World) (hs : RSt w g a len cap st) (hr : Rd w a zs) (hl : zs.length = len) (hc : len ≤ cap) (hm : len ≤ 140737488355328) (hd : a = none → cap = 0) (ho : Off a g) :
    Calls Tryz.prog 158 #[.pointer (some ⟨g, 0, none⟩)] w fun e w' => e = .returned (.bool st.isNone) ∧ Hid (RSt w' g a len cap st ∧ w.grownBy w' (some g)) := by
  have H0 : Hid (RSt w g a len cap st ∧ Rd w a zs ∧ zs.length = len ∧ (a = none → cap = 0) ∧ Off a g) := ⟨hs, hr, hl, hd, ho⟩
  clear hs hr hl hd ho
  go_enter Tryz.func158, Tryz.ntmps158
  go_wp2_with fail
  refine (move_any g a len cap zs st st 0 _ _ H0.out.1 H0.out.2.1 H0.out.2.2.1 hc hm H0.out.2.2.2.1 H0.out.2.2.2.2 (mv_zero len st H0.out.1.le) rfl).mono ?_
  rintro e w1 ⟨ov, oc, rfl, H1⟩
  go_wp2
  go_ret
  exact ⟨rfl, H1.out.2.2.1, H1.out.2.2.2⟩
set_option maxRecDepth 100000 in
set_option maxHeartbeats 400000 in
theorem new_any (x : Addr) (cap : Nat) (zs : List Int) (w : World) (hr : Rd w (some x) zs) (hm : zs.length ≤ 140737488355328) :
    Calls Tryz.prog 152 #[.slice (some x) zs.length cap] w fun e w' => ∃ gr a' ca, e = .returned (.pointer (some ⟨gr, 0, none⟩)) ∧ Hid (w.heap.size ≤ gr ∧ RBlk w' gr (.slice a' zs.length ca) 0 false ∧ Rd w' a' zs ∧ zs.length ≤ ca ∧ (a' = none → ca = 0) ∧ Off a' gr ∧ (∀ y o, a' = some ⟨y, o, none⟩ → w.heap.size ≤ y ∧ y < w'.heap.size) ∧ Below w.heap.size w w') := by
  have HX : Hid (Calls Tryz.prog 178 #[.slice (some x) zs.length cap] w fun e w' => ∃ v ys, e = .returned v ∧ Hid (Own w.heap.size w' v zs.length ys ∧ ys.take zs.length = zs ∧ Below w.heap.size w w')) := clone_any x cap zs w hr hm
  clear hr hm
  generalize hl : zs.length = len at *
  have HL : Hid (zs.length = len) := hl
  clear hl
  go_enter Tryz.func152, Tryz.ntmps152
  go_wp2_with fail
  refine HX.out.mono ?_
  rintro e w1 ⟨v, ys, rfl, H1⟩
  obtain ⟨a', rfl, hoa⟩ := H1.out.1.addr
  have HO : Hid (OwnA w.heap.size w1 a' len ys ∧ ys.take len = zs ∧ Below w.heap.size w w1) := ⟨hoa, H1.out.2.1, H1.out.2.2⟩
  clear hoa H1
  generalize hy : ys.length = yl
  have HY : Hid (ys.length = yl) := hy
  clear hy
  go_wp2
  go_ret
  obtain ⟨q1, q2, q3⟩ := HO.out
  have hnb := new_below w1 (.cells #[.pointer (some ⟨w1.heap.size, 0, none⟩), .slice a' len yl, .int .i64 0, .bool false] 197)
  have hrd := q1.rdTake len
  rw [q2] at hrd
  refine ⟨w1.heap.size, a', yl, rfl, q3.size, heap_alloc_new _ _, hrd.below hnb, ?_, ?_, ?_, ?_, q3.trans (hnb.mono q3.size)⟩
  · have := q1.le.1; rw [HY.out] at this; exact this
  · intro e; have := q1.nil e; rw [HY.out] at this; exact this
  · rintro y o rfl
    have := (q1.lt y rfl).2
    omega
  · rintro y o rfl
    have h1 := (q1.lt y rfl)
    have h2 := hnb.size
    exact ⟨h1.1, by omega⟩
end Go.Proofs.YtfkfjodfjgjbkaaGreatDoor
/- Picked out of earlier texts. -/
namespace Go.Proofs.YtfkfjodfjgjbkaaGreatDoor
open Go.ChangeShapes Go.WideShapes Go.ChangeAt Go.RowKit
set_option linter.unusedVariables false
set_option linter.unusedSimpArgs false


set_option maxRecDepth 100000 in
set_option maxHeartbeats 1000000 in
theorem move_front (g : Nat) (a : Option Addr) (len cap n : Nat) (k : Int) (zs : List Int) (w : World) (hb : RBlk w g (.slice a len cap) k false) (hr : Rd w a zs) (hl : zs.length = len) (hc : len ≤ cap) (hm : len ≤ 140737488355328) (hn : n ≤ len) (ho : Off a g) :
    Calls Tryz.prog 184 #[.pointer (some ⟨g, 0, none⟩), .int .u8 1, .int .i64 n] w fun e w' => ∃ ov, e = .returned (.agg #[.slice ov n cap, .int .i64 (n : Int), .int .i64 ((len : Int) - (n : Int)), .bool false]) ∧
      Hid (Rd w' ov (zs.take n) ∧ (ov = none → a = none) ∧ RBlk w' g (.slice a len cap) (n : Int) false ∧ w.grownBy w' (some g)) := by
  have HB : Hid (RBlk w g (.slice a len cap) k false) := hb
  have HR : Hid (Rd w a zs) := hr
  have HL : Hid (zs.length = len) := hl
  have HO : Hid (Off a g) := ho
  have hg := hb.lt
  have c0 := hb.c0
  have c1 := hb.c1
  have c2 := hb.c2
  have c3 := hb.c3
  have f2 := hb.fz 2
  have hne := neq_ptr_same ⟨g, 0, none⟩
  clear hb hr hl ho
  go_enter Tryz.func184, Tryz.ntmps184
  go_wp2_with fail
  refine (piece_in a len cap 0 n zs _ (HR.out.below ((Below.refl _ _).alloc (Nat.le_refl _) _)) HL.out hc hm (by omega)).mono ?_
  rintro e w' ⟨⟨ov, rfl, H1⟩, rfl⟩
  go_wp2_with fail
  have hw : IntKind.i64.wrap ((len : Int) - (n : Int)) = (len : Int) - (n : Int) := by rw [IntKind.wrap_i64]; omega
  have hgw : ¬ w.heap.size = g := by omega
  obtain ⟨m1, m2, m3, m4⟩ := moved g (.slice a len cap) k (n : Int) w HB.out #[.slice none 0 0, .int .i64 0, .int .i64 0, .bool false]
  obtain ⟨v0, v1, v2, v3, v4⟩ := cells4 m2
  have d1 := m1.c1
  have d2 := m1.c2
  have HM : Hid (RBlk ((w.setCell ⟨g, 2, none⟩ (.int .i64 (n : Int))).alloc (.cells #[.slice none 0 0, .int .i64 0, .int .i64 0, .bool false] 202)) g (.slice a len cap) (n : Int) false ∧ w.grownBy ((w.setCell ⟨g, 2, none⟩ (.int .i64 (n : Int))).alloc (.cells #[.slice none 0 0, .int .i64 0, .int .i64 0, .bool false] 202)) (some g)) := ⟨m1, m3⟩
  clear m1 m2 m3 c0 c1 c2 c3 f2 hne
  generalize (w.setCell ⟨g, 2, none⟩ (.int .i64 (n : Int))).alloc (.cells #[.slice none 0 0, .int .i64 0, .int .i64 0, .bool false] 202) = W1 at *
  generalize hs : w.heap.size = s at *
  have HS : Hid (w.heap.size = s) := hs
  clear hs
  have v4a := v4 0
  have v4b := v4 1
  have v4c := v4 2
  have v4d := v4 3
  clear v4
  go_region_held3 (fun W => W.cell? ⟨g, 1, none⟩ = some (.slice a len cap) ∧ W.cell? ⟨g, 2, none⟩ = some (.int .i64 (n : Int))) (go_keep) (fail)
  go_wp2
  obtain ⟨h1, h2⟩ := H1.out
  have hM := moved_end HM.out HS.out (by omega) (.slice ov n cap) (.int .i64 (n : Int)) (.int .i64 ((len : Int) - (n : Int))) (.bool false)
  have hR := h1 _ (HR.out.grown hM.2 HO.out)
  clear h1
  refine bodyPost_ret (v := .agg #[.slice ov n cap, .int .i64 (n : Int), .int .i64 ((len : Int) - (n : Int)), .bool false]) ?_ rfl ⟨ov, rfl, hR, h2, hM.1, hM.2.os, hM.2.tape, hM.2.output, hM.2.size, hM.2.block⟩
  clear hM hR HM H1 HR HO
  simp [results, Tryz.results134, go_sem, *]
set_option maxRecDepth 100000 in
set_option maxHeartbeats 1000000 in
theorem move_front_out (g : Nat) (a : Option Addr) (len cap : Nat) (k n : Int) (w : World) (hb : RBlk w g (.slice a len cap) k false) (hc : len ≤ cap) (hm : len ≤ 140737488355328) (hk : 0 ≤ k ∧ k ≤ len) (hn : n < 0 ∨ (len : Int) < n) :
    Calls Tryz.prog 184 #[.pointer (some ⟨g, 0, none⟩), .int .u8 1, .int .i64 n] w fun e w' => e = .returned (.agg #[.slice none 0 0, .int .i64 0, .int .i64 0, .bool true]) ∧
      Hid (RBlk w' g (.slice none 0 0) 0 true ∧ w.grownBy w' (some g)) := by
  have HB : Hid (RBlk w g (.slice a len cap) k false) := hb
  have hg := hb.lt
  have c0 := hb.c0
  have c1 := hb.c1
  have c2 := hb.c2
  have c3 := hb.c3
  have f0 := hb.fz 0
  have f1 := hb.fz 1
  have f2 := hb.fz 2
  have f3 := hb.fz 3
  have hne := neq_ptr_same ⟨g, 0, none⟩
  clear hb
  have HN : Hid (n < 0 ∨ (len : Int) < n) := hn
  clear hn
  go_enter Tryz.func184, Tryz.ntmps184
  go_wp2_with fail
  refine (piece_out a len cap 0 n _ hm (by have := HN.out; omega)).mono ?_
  rintro e w' ⟨rfl, rfl⟩
  go_wp2_with fail
  have hM := spoilt g _ _ w HB.out #[.slice none 0 0, .int .i64 0, .int .i64 0, .bool true]
  exact bodyPost_ret (v := .agg #[.slice none 0 0, .int .i64 0, .int .i64 0, .bool true]) (by simp [results, Tryz.results134, go_sem]) rfl ⟨rfl, hM⟩
attribute [local go_sem] view0 view1 view2 view3
def jm (len : Nat) (st : Option Nat) (n : Int) : Option Nat := match st with
  | some _ => if 0 ≤ n ∧ n ≤ len then some n.toNat else none
  | none => none
theorem jumpto_any (g : Nat) (a : Option Addr) (len cap : Nat) (zs : List Int) (st : Option Nat) (n : Int) (w : World) (hs : RSt w g a len cap st) (hr : Rd w a zs) (hl : zs.length = len) (hc : len ≤ cap) (hm : len ≤ 140737488355328) (ho : Off a g) :
    Calls Tryz.prog 184 #[.pointer (some ⟨g, 0, none⟩), .int .u8 1, .int .i64 n] w fun e w' => ∃ v, e = .returned v ∧ Hid (RSt w' g a len cap (jm len st n) ∧ w.grownBy w' (some g)) := by
  cases st with
  | none =>
    refine (move_isbad g 1 n _ _ w hs).mono ?_
    rintro e w' ⟨rfl, hb⟩
    exact ⟨_, rfl, RSt.same (st := none) hs (hb.block g (RBlk.lt hs)), below_grown hb⟩
  | some k =>
    by_cases h : 0 ≤ n ∧ n ≤ len
    · obtain ⟨m, rfl⟩ := Int.eq_ofNat_of_zero_le h.1
      have hm' : m ≤ len := by omega
      have e1 : jm len (some k) m = some m := by simp only [jm]; rw [if_pos h]; rfl
      rw [e1]
      refine (move_front g a len cap m k zs w hs.1 hr hl hc hm hm' ho).mono ?_
      rintro e w' ⟨ov, rfl, H⟩
      exact ⟨_, rfl, ⟨H.out.2.2.1, hm'⟩, H.out.2.2.2⟩
    · have e1 : jm len (some k) n = none := by simp only [jm]; rw [if_neg h]
      rw [e1]
      have hkl := hs.2
      refine (move_front_out g a len cap k n w hs.1 hc hm ⟨by omega, by omega⟩ (by omega)).mono ?_
      rintro e w' ⟨rfl, H⟩
      exact ⟨_, rfl, H.out.1, H.out.2⟩
theorem ru16_any (g : Nat) (a : Option Addr) (len cap : Nat) (zs : List Int) (st : Option Nat) (w : World) (hs : RSt w g a len cap st) (hr : Rd w a zs) (hl : zs.length = len) (hc : len ≤ cap) (hm : len ≤ 140737488355328) (hd : a = none → cap = 0) (ho : Off a g) :
    Calls Tryz.prog 193 #[.pointer (some ⟨g, 0, none⟩)] w fun e w' => e = .returned (.int .i64 (val (tk zs st 2))) ∧ Hid (RSt w' g a len cap (mv len st 2) ∧ w.grownBy w' (some g)) := by
  have H0 : Hid (RSt w g a len cap st ∧ Rd w a zs ∧ zs.length = len ∧ (a = none → cap = 0) ∧ Off a g) := ⟨hs, hr, hl, hd, ho⟩
  clear hs hr hl hd ho
  obtain ⟨st', hst⟩ : ∃ x, mv len st 2 = x := ⟨_, rfl⟩
  obtain ⟨c, htk⟩ : ∃ x, (tk zs st 2).length = x := ⟨_, rfl⟩
  have hc4 : c ≤ 2 := by have : (tk zs st (2 : Int)).length ≤ 2 := tk_len zs st 2; omega
  have hv := val_small4 (tk zs st 2) (tk_bytes zs st 2 H0.out.2.1.2) (by omega)
  have HT : Hid (mv len st 2 = st' ∧ (tk zs st 2).length = c) := ⟨hst, htk⟩
  clear hst htk
  rw [HT.out.1]
  go_enter Tryz.func193, Tryz.ntmps193
  go_wp2_with fail
  refine (move_any g a len cap zs st st' 2 c _ H0.out.1 H0.out.2.1 H0.out.2.2.1 hc hm H0.out.2.2.2.1 H0.out.2.2.2.2 HT.out.1 HT.out.2).mono ?_
  rintro e w1 ⟨ov, oc, rfl, H1⟩
  go_wp2_with fail
  refine (number_any ov c oc (tk zs st 2) _ H1.out.1 HT.out.2 (by omega)).mono ?_
  rintro e w2 ⟨rfl, rfl⟩
  go_wp2
  go_ret
  exact ⟨by simp, H1.out.2.2.1, H1.out.2.2.2⟩
theorem ru32_any (g : Nat) (a : Option Addr) (len cap : Nat) (zs : List Int) (st : Option Nat) (w : World) (hs : RSt w g a len cap st) (hr : Rd w a zs) (hl : zs.length = len) (hc : len ≤ cap) (hm : len ≤ 140737488355328) (hd : a = none → cap = 0) (ho : Off a g) :
    Calls Tryz.prog 194 #[.pointer (some ⟨g, 0, none⟩)] w fun e w' => e = .returned (.int .u32 (val (tk zs st 4))) ∧ Hid (RSt w' g a len cap (mv len st 4) ∧ w.grownBy w' (some g)) := by
  have H0 : Hid (RSt w g a len cap st ∧ Rd w a zs ∧ zs.length = len ∧ (a = none → cap = 0) ∧ Off a g) := ⟨hs, hr, hl, hd, ho⟩
  clear hs hr hl hd ho
  obtain ⟨st', hst⟩ : ∃ x, mv len st 4 = x := ⟨_, rfl⟩
  obtain ⟨c, htk⟩ : ∃ x, (tk zs st 4).length = x := ⟨_, rfl⟩
  have hc4 : c ≤ 4 := by have : (tk zs st (4 : Int)).length ≤ 4 := tk_len zs st 4; omega
  have hv := val_small4 (tk zs st 4) (tk_bytes zs st 4 H0.out.2.1.2) (by omega)
  have HT : Hid (mv len st 4 = st' ∧ (tk zs st 4).length = c) := ⟨hst, htk⟩
  clear hst htk
  rw [HT.out.1]
  go_enter Tryz.func194, Tryz.ntmps194
  go_wp2_with fail
  refine (move_any g a len cap zs st st' 4 c _ H0.out.1 H0.out.2.1 H0.out.2.2.1 hc hm H0.out.2.2.2.1 H0.out.2.2.2.2 HT.out.1 HT.out.2).mono ?_
  rintro e w1 ⟨ov, oc, rfl, H1⟩
  go_wp2_with fail
  refine (number_any ov c oc (tk zs st 4) _ H1.out.1 HT.out.2 (by omega)).mono ?_
  rintro e w2 ⟨rfl, rfl⟩
  go_wp2
  go_ret
  exact ⟨by simp, H1.out.2.2.1, H1.out.2.2.2⟩
theorem rjump_any (g : Nat) (a : Option Addr) (len cap : Nat) (zs : List Int) (st : Option Nat) (n : Int) (w : World) (hs : RSt w g a len cap st) (hr : Rd w a zs) (hl : zs.length = len) (hc : len ≤ cap) (hm : len ≤ 140737488355328) (hd : a = none → cap = 0) (ho : Off a g) :
    Calls Tryz.prog 181 #[.pointer (some ⟨g, 0, none⟩), .int .i64 n] w fun e w' => e = .returned (.tuple #[]) ∧ Hid (RSt w' g a len cap (jm len st n) ∧ w.grownBy w' (some g)) := by
  have H0 : Hid (RSt w g a len cap st ∧ Rd w a zs ∧ zs.length = len ∧ (a = none → cap = 0) ∧ Off a g) := ⟨hs, hr, hl, hd, ho⟩
  clear hs hr hl hd ho
  go_enter Tryz.func181, Tryz.ntmps181
  go_wp2_with fail
  refine (jumpto_any g a len cap zs st n _ H0.out.1 H0.out.2.1 H0.out.2.2.1 hc hm H0.out.2.2.2.2).mono ?_
  rintro e w1 ⟨v, rfl, H1⟩
  go_wp2
  go_end0
  exact ⟨rfl, H1⟩
theorem rleft_any (g : Nat) (a : Option Addr) (len cap : Nat) (zs : List Int) (st : Option Nat) (w : World) (hs : RSt w g a len cap st) (hr : Rd w a zs) (hl : zs.length = len) (hc : len ≤ cap) (hm : len ≤ 140737488355328) (hd : a = none → cap = 0) (ho : Off a g) :
    Calls Tryz.prog 157 #[.pointer (some ⟨g, 0, none⟩)] w fun e w' => e = .returned (.int .i64 (lft len st)) ∧ Hid (RSt w' g a len cap st ∧ w.grownBy w' (some g)) := by
  have H0 : Hid (RSt w g a len cap st ∧ Rd w a zs ∧ zs.length = len ∧ (a = none → cap = 0) ∧ Off a g) := ⟨hs, hr, hl, hd, ho⟩
  clear hs hr hl hd ho
  go_enter Tryz.func157, Tryz.ntmps157
  go_wp2_with fail
  refine (move_any g a len cap zs st st 0 _ _ H0.out.1 H0.out.2.1 H0.out.2.2.1 hc hm H0.out.2.2.2.1 H0.out.2.2.2.2 (mv_zero len st H0.out.1.le) rfl).mono ?_
  rintro e w1 ⟨ov, oc, rfl, H1⟩
  go_wp2
  go_ret
  exact ⟨rfl, H1.out.2.2.1, H1.out.2.2.2⟩
theorem put32_yes (n : Int) (w : World) (h0 : 0 ≤ n) (h1 : n < 4294967296) :
    Calls Tryz.prog 123 #[.int .u32 n] w fun e w' => e = .returned (.slice (some ⟨w.heap.size, 0, none⟩) 4 4) ∧ w' = w.alloc (.cells #[.int .u8 (n / 16777216), .int .u8 (n / 65536 % 256), .int .u8 (n / 256 % 256), .int .u8 (n % 256)] 5) := by
  go_enter Tryz.func123, Tryz.ntmps123
  go_wp2
  go_ret
  exact ⟨rfl, rfl⟩
set_option maxRecDepth 100000 in
set_option maxHeartbeats 400000 in
theorem new_none (w : World) :
    Calls Tryz.prog 152 #[.slice none 0 0] w fun e w' => ∃ gr a' ca, e = .returned (.pointer (some ⟨gr, 0, none⟩)) ∧ Hid (w.heap.size ≤ gr ∧ RBlk w' gr (.slice a' 0 ca) 0 false ∧ Rd w' a' [] ∧ 0 ≤ ca ∧ (a' = none → ca = 0) ∧ Off a' gr ∧ (∀ y o, a' = some ⟨y, o, none⟩ → w.heap.size ≤ y ∧ y < w'.heap.size) ∧ Below w.heap.size w w') := by
  go_enter Tryz.func152, Tryz.ntmps152
  go_wp2_with fail
  refine (clone_none _).mono ?_
  rintro e w1 ⟨rfl, rfl⟩
  go_wp2
  go_ret
  have hnb := new_below w1 (.cells #[.pointer (some ⟨w1.heap.size, 0, none⟩), .slice none 0 0, .int .i64 0, .bool false] 197)
  exact ⟨w1.heap.size, none, 0, rfl, Nat.le_refl _, heap_alloc_new _ _, ⟨.inl rfl, by simp⟩, Nat.le_refl _, fun _ => rfl, (by rintro _ _ ⟨⟩), (by rintro _ _ ⟨⟩), hnb⟩
end Go.Proofs.YtfkfjodfjgjbkaaGreatDoor
