/- The statement that holds the chapter's examples: its walk. -/
import Derived.Test.YtjfpkpblifbljaaDoorKn
namespace Go.Proofs.YtjfpkpblifbljaaDoor
open Go.ChangeShapes Go.WideShapes Go.ChangeAt Go.RowKit
set_option linter.unusedVariables false
set_option linter.unusedSimpArgs false

/-- Where the walk stands: what is listed lies there, and nothing that was there has turned. -/
def At (w W : World) : Prop := Lay W ∧ Below w.heap.size w W
theorem At.go {w W W' : World} (h : At w W) (hb : Below W.heap.size W W') : At w W' := ⟨h.1.below hb, h.2.trans (hb.mono h.2.size)⟩

set_option maxRecDepth 100000 in
set_option maxHeartbeats 4000000 in
theorem known_walk (w : World) (hL : LayT w ∧ LayE w) : Calls Tryd.prog 7 #[] w fun e w' => e = .returned (.bool true) ∧ Below w.heap.size w w' := by
  have H : Hid (At w w) := ⟨hL, Below.refl _ _⟩
  clear hL
  go_enter Tryd.func7, Tryd.ntmps7
  go_wp2_with fail
  refine (k_t99 w H.out.1).mono ?_
  rintro e W1 ⟨rfl, HN⟩
  replace H : Hid (At w W1) := H.out.go HN.out
  clear HN
  go_wp2_with fail
  refine (k_t0 W1 H.out.1).mono ?_
  rintro e W2 ⟨rfl, HN⟩
  replace H : Hid (At w W2) := H.out.go HN.out
  clear HN
  go_wp2_with fail
  refine (k_c1 W2 H.out.1).mono ?_
  rintro e W3 ⟨rfl, HN⟩
  replace H : Hid (At w W3) := H.out.go HN.out
  clear HN
  go_wp2_with fail
  refine (k_c2 W3 H.out.1).mono ?_
  rintro e W4 ⟨rfl, HN⟩
  replace H : Hid (At w W4) := H.out.go HN.out
  clear HN
  go_wp2_with fail
  refine (k_p1 W4 H.out.1).mono ?_
  rintro e W5 ⟨rfl, HN⟩
  replace H : Hid (At w W5) := H.out.go HN.out
  clear HN
  go_wp2_with fail
  refine (k_p65535 W5 H.out.1).mono ?_
  rintro e W6 ⟨rfl, HN⟩
  replace H : Hid (At w W6) := H.out.go HN.out
  clear HN
  go_wp2_with fail
  have HG : Hid (∀ i, i < 5 → (W6.alloc (.cells #[.string ⟨#[84, 89, 80, 69, 48, 49]⟩, .string ⟨#[84, 89, 80, 69, 54, 53, 53, 51, 54]⟩, .string ⟨#[84, 89, 80, 69]⟩, .string ⟨#[73, 78]⟩, .string ⟨#[]⟩] 9)).cell? ⟨W6.heap.size, i, none⟩ = some (.string (bads.getD i ⟨#[]⟩))) := by
    intro i hi
    unfold World.cell?
    rw [heap_alloc_new]
    have : i = 0 ∨ i = 1 ∨ i = 2 ∨ i = 3 ∨ i = 4 := by omega
    rcases this with rfl | rfl | rfl | rfl | rfl <;> rfl
  have HA : Hid (At w (W6.alloc (.cells #[.string ⟨#[84, 89, 80, 69, 48, 49]⟩, .string ⟨#[84, 89, 80, 69, 54, 53, 53, 51, 54]⟩, .string ⟨#[84, 89, 80, 69]⟩, .string ⟨#[73, 78]⟩, .string ⟨#[]⟩] 9)) ∧ W6.heap.size < (W6.alloc (.cells #[.string ⟨#[84, 89, 80, 69, 48, 49]⟩, .string ⟨#[84, 89, 80, 69, 54, 53, 53, 51, 54]⟩, .string ⟨#[84, 89, 80, 69]⟩, .string ⟨#[73, 78]⟩, .string ⟨#[]⟩] 9)).heap.size) := ⟨H.out.go ((Below.refl _ _).alloc (Nat.le_refl _) _), by simp⟩
  generalize (W6.alloc (.cells #[.string ⟨#[84, 89, 80, 69, 48, 49]⟩, .string ⟨#[84, 89, 80, 69, 54, 53, 53, 51, 54]⟩, .string ⟨#[84, 89, 80, 69]⟩, .string ⟨#[73, 78]⟩, .string ⟨#[]⟩] 9)) = W7 at *
  generalize W6.heap.size = g at *
  clear H
  go_loopw [47] (fun x wr => ∃ k : Nat, k ≤ 5 ∧ x = .int .i64 k ∧ Hid (At w wr ∧ g < wr.heap.size ∧ ∀ i, i < 5 → wr.cell? ⟨g, i, none⟩ = some (.string (bads.getD i ⟨#[]⟩)))) (fun x _ => 5 - (intOf x).toNat)
  case atStart => exact ⟨0, by omega, rfl, HA.out.1, HA.out.2, HG.out⟩
  case round =>
    obtain ⟨k, hk, rfl, HI⟩ := hrel
    clear HA HG
    by_cases hlt : k < 5
    · have hlt' : (k : Int) < 5 := by omega
      have hc := HI.out.2.2 k hlt
      have hm : bads.getD k ⟨#[]⟩ ∈ bads := by
        have hkl : k < bads.length := hlt
        rw [List.getD_eq_getElem?_getD, List.getElem?_eq_getElem hkl]
        exact List.getElem_mem hkl
      have HM : Hid (bads.getD k ⟨#[]⟩ ∈ bads) := hm
      clear hm
      generalize bads.getD k ⟨#[]⟩ = b at *
      go_wp2_with fail
      refine (bad_any b HM.out wr HI.out.1.1).mono ?_
      rintro e wy ⟨rfl, HY⟩
      have HJ : Hid (At w wy ∧ g < wy.heap.size ∧ ∀ i, i < 5 → wy.cell? ⟨g, i, none⟩ = some (.string (bads.getD i ⟨#[]⟩))) := ⟨HI.out.1.go HY.out, Nat.lt_of_lt_of_le HI.out.2.1 HY.out.size, fun i hi => (HY.out.cell (p := ⟨g, i, none⟩) HI.out.2.1).trans (HI.out.2.2 i hi)⟩
      clear HI HY hc
      go_wp2_with fail
      exact ⟨⟨k + 1, by omega, by go_num, HJ⟩, by simp [intOf]; omega⟩
    · have hge : ¬ (k : Int) < 5 := by omega
      have H : Hid (At w wr) := HI.out.1
      clear HI
      go_wp2_with fail
      refine (k_q255 wr H.out.1).mono ?_
      rintro e W11 ⟨rfl, HN⟩
      replace H : Hid (At w W11) := H.out.go HN.out
      clear HN
      go_wp2_with fail
      refine (k_r11 W11 H.out.1).mono ?_
      rintro e W12 ⟨rfl, HN⟩
      replace H : Hid (At w W12) := H.out.go HN.out
      clear HN
      go_wp2_with fail
      refine (k_r4096 W12 H.out.1).mono ?_
      rintro e W13 ⟨rfl, HN⟩
      replace H : Hid (At w W13) := H.out.go HN.out
      clear HN
      go_wp2_with fail
      refine (k_o5 W13 H.out.1).mono ?_
      rintro e W14 ⟨rfl, HN⟩
      replace H : Hid (At w W14) := H.out.go HN.out
      clear HN
      go_wp2_with fail
      refine (k_o3 W14 H.out.1).mono ?_
      rintro e W15 ⟨rfl, HN⟩
      replace H : Hid (At w W15) := H.out.go HN.out
      clear HN
      go_wp2_with fail
      refine (k_o16 W15 H.out.1).mono ?_
      rintro e W16 ⟨rfl, HN⟩
      replace H : Hid (At w W16) := H.out.go HN.out
      clear HN
      go_wp2_with fail
      refine (known_any 257 _).mono ?_
      rintro e Wx17 ⟨rfl, rfl⟩
      rw [show knownF 257 = true by decide]
      go_wp2_with fail
      refine (known_any 41 _).mono ?_
      rintro e Wx18 ⟨rfl, rfl⟩
      rw [show knownF 41 = false by decide]
      go_wp2_with fail
      refine (stored_any 99 _).mono ?_
      rintro e Wx19 ⟨rfl, rfl⟩
      rw [show storedF 99 = true by decide]
      go_wp2_with fail
      refine (stored_any 41 _).mono ?_
      rintro e Wx20 ⟨rfl, rfl⟩
      rw [show storedF 41 = false by decide]
      go_wp2_with fail
      refine (stored_any 255 _).mono ?_
      rintro e Wx21 ⟨rfl, rfl⟩
      rw [show storedF 255 = false by decide]
      go_wp2_with fail
      refine (stored_any 0 _).mono ?_
      rintro e Wx22 ⟨rfl, rfl⟩
      rw [show storedF 0 = false by decide]
      go_wp2_with fail
      refine (awake_any _ H.out.1.1 H.out.1.2).mono ?_
      rintro e W23 ⟨rfl, HN⟩
      replace H : Hid (At w W23) := H.out.go HN.out
      clear HN
      go_wp2_with fail
      go_ret
      exact ⟨rfl, H.out.2⟩
end Go.Proofs.YtjfpkpblifbljaaDoor
