/- Bytes that came in can be read; the walks of NameParts and NameBack for names of any bulk. -/
import Derived.Test.YtkbpjaojgkpffaaOpn
import Derived.Test.YtkbpjaojgkpffaaPartN
import Derived.Test.YtkbpjaojgkpffaaBackN
namespace Go.Proofs.Ytkbpjaojgkpffaa
open Go.ChangeShapes Go.WideShapes Go.ChangeAt Go.RowKit Go.Deep
set_option linter.unusedVariables false
set_option linter.unusedSimpArgs false

theorem bulk_litsN {H : Type} (k : IntKind) (zs : List Int) : zs.length ≤ Rows.uptoBulkAll (zs.map fun z => DataW.lit (H := H) (.int k z)) := by
  induction zs with
  | nil => simp
  | cons z zs ih =>
    simp only [List.map_cons, Rows.uptoBulkAll, List.length_cons, Rows.uptoBulk] at ih ⊢
    omega
theorem open_bytesN {H : Type} {enc : TypeId × Value → H} {W : World} {a : Option Addr} {len cap : Nat} {d : DataW H} {p : List MemPlace}
    (h : DataW.Trod enc Try.prog W 0 (fun _ => true) true 51 (Value.slice a len cap) d p) :
    ∃ zs : List Int, Rd W a zs ∧ zs.length = len ∧ len ≤ cap ∧ cap ≤ 9223372036854775807 ∧ (a = none → cap = 0) ∧ len ≤ Rows.uptoBulk d := by
  obtain ⟨fuel, hf⟩ := h
  rcases open_ints Try.underlying51 Try.underlying5 (by kernel_rfl) hf with ⟨hcs, _⟩ | ⟨x, l, c, zs, hcs, _, hl, hm, hz, hx, hcell, hwz⟩
  · simp [Value.cells] at hcs
    obtain ⟨rfl, rfl, rfl⟩ := hcs
    exact ⟨[], ⟨.inl rfl, by simp⟩, rfl, Nat.le_refl _, by omega, fun _ => rfl, by omega⟩
  · simp [Value.cells] at hcs
    obtain ⟨rfl, rfl, rfl⟩ := hcs
    have hz' : zs.length = cap := by simpa using hz
    refine ⟨zs.take len, ⟨?_, ?_⟩, by simp; omega, hl, by simp only [maxLen] at hm; exact hm, by simp, ?_⟩
    · by_cases h0 : cap = 0
      · left
        have : zs = [] := List.eq_nil_of_length_eq_zero (by omega)
        rw [this]; simp
      · right
        obtain ⟨b, off, spot⟩ := x
        have hspot : spot = none := by simpa [Addr.add] using World.cell?_spot (hcell 0 (by omega))
        subst hspot
        have hlt : b < W.heap.size := by
          have := World.block_lt_of_cell? W _ (hcell 0 (by omega))
          simpa [Addr.add] using this
        refine ⟨b, off, rfl, hlt, fun i hi => ?_⟩
        have hi' : i < len := by simp at hi; omega
        have := hcell i (by simp at hi; omega)
        rw [Addr.add_lit] at this
        rw [this]
        simp [List.getD_eq_getElem?_getD, hi']
    · intro z hz2
      have := hwz z (List.mem_of_mem_take hz2)
      simp [Lit.wf, IntKind.min, IntKind.max, IntKind.bits, IntKind.signed] at this
      omega
    · rw [(Prod.mk.inj hx).1]
      have := bulk_litsN (H := H) .u8 (zs.take len)
      simp only [List.length_take] at this
      simp only [Rows.uptoBulk, lits] at this ⊢
      omega
theorem parts_walkN (a : Option Addr) (n c : Nat) (d : Int) (ss : List ByteArray) (w : World) (h : Nm w a n ss) (hc : n ≤ c ∧ c ≤ 9223372036854775807) :
    Calls Try.prog 8 #[.slice a n c, .int .i64 d] w fun e w' => e = .returned (.bool true) ∧ Below w.heap.size w w' := by
  by_cases hk : nck ss = 0
  · exact parts_ok a n c d ss w h hc hk
  · exact parts_bad a n c d _ w (pcheck_any a n c ss w h) hk
theorem back_walkN (a b d : Option Addr) (n m c1 c2 len cap : Nat) (ss og : List ByteArray) (zs : List Int) (w : World) (hs : Nm w a n ss) (hg : Nm w b m og) (hz : Rd w d zs) (hl : zs.length = len) (hm : len ≤ 140737488351232) (hd : d = none → cap = 0) :
    Calls Try.prog 6 #[.slice a n c1, .slice b m c2, .slice d len cap] w fun e w' => e = .returned (.bool true) ∧ Below w.heap.size w w' := by
  by_cases hk : nck ss = 0 ∧ nck og = 0
  · exact nback_ok a b d n m c1 c2 len cap ss og zs w hs hg hz hl hm hd hk.1 hk.2
  · exact nback_bad a b n m c1 c2 _ _ _ w (pcheck_any a n c1 ss w hs) (fun W hW => pcheck_any b m c2 og W (hg.below hW)) hk
end Go.Proofs.Ytkbpjaojgkpffaa
