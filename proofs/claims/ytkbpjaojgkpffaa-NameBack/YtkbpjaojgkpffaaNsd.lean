/- Names of any size: checked; the walks of NameParts and NameBack over them; names and bytes within the reach. -/
import Derived.Test.YtkbpjaojgkpffaaOpnB
import Derived.SizedLaws
namespace Go.Proofs.Ytkbpjaojgkpffaa
open Go.ChangeShapes Go.WideShapes Go.ChangeAt Go.RowKit Go.Deep
set_option linter.unusedVariables false
set_option linter.unusedSimpArgs false

set_option maxRecDepth 100000 in
set_option maxHeartbeats 1000000 in
theorem pcheck_wide (a : Option Addr) (len cap : Nat) (ss : List ByteArray) (w : World) (hr : RdT w a ss) (hl : ss.length = len) (hm : labsOk ss → nsz ss ≤ 1000000000000000) (hlen : len ≤ 9223372036854775807) (hz : ∀ s ∈ ss, s.size ≤ 9223372036854775807) :
    Calls Try.prog 11 #[.slice a len cap] w fun e w' => e = .returned (.int .i64 (nck ss)) ∧ w' = w := by
  have HR : Hid (RdT w a ss ∧ ∀ s ∈ ss, s.size ≤ 9223372036854775807) := ⟨hr, hz⟩
  have HL : Hid (ss.length = len) := hl
  have HS : Hid (labsOk ss → ∀ W, RdT W a ss → Calls Try.prog 13 #[.slice a len cap] W fun e w' => e = .returned (.int .i64 (nsz ss)) ∧ w' = W) := fun ho W hW => psize_eq a len cap ss W hW hl (hm ho)
  obtain ⟨T, hT⟩ : ∃ T, nsz ss = T := ⟨_, rfl⟩
  have HT : Hid (nsz ss = T) := hT
  rw [hT] at HS
  clear hr hl hT hz hm
  go_enter Try.func11, Try.ntmps11
  go_wp2_with fail
  go_loopw [8] (fun x wr => ∃ k : Nat, k ≤ len ∧ x = .int .i64 k ∧ wr = w ∧ Hid (∀ i (h : i < ss.length), i < k → chk ss[i].size = 0)) (fun x _ => len - (intOf x).toNat)
  case atStart => exact ⟨0, Nat.zero_le _, rfl, rfl, fun i _ h => absurd h (by omega)⟩
  case round =>
    obtain ⟨k, hk, rfl, rfl, HK⟩ := hrel
    by_cases hlt : k < len
    · have hlt' : (k : Int) < (len : Int) := by omega
      have hks : k < ss.length := by rw [HL.out]; exact hlt
      obtain ⟨b, o, rfl, hb, hc⟩ := HR.out.1.at k hks
      have HC : Hid (∀ W, Calls Try.prog 54 #[.string ss[k]] W fun e w' => e = .returned (.int .i64 (chk ss[k].size)) ∧ w' = W) := fun W => chk_any ss[k] W (HR.out.2 _ (List.getElem_mem hks))
      rcases chk_cases ss[k].size with hk0 | hk4
      · have HN : Hid (∀ i (h : i < ss.length), i < k + 1 → chk ss[i].size = 0) := by
          intro i h hi
          by_cases e : i = k
          · subst e; exact hk0
          · exact HK.out i h (by omega)
        rw [hk0] at HC
        clear hk0 HK
        generalize ss[k] = s at *
        go_wp2_with fail
        refine (HC.out _).mono ?_
        rintro e w1 ⟨rfl, rfl⟩
        go_wp2
        exact ⟨⟨k + 1, by omega, by go_num, trivial, HN⟩, by simp [intOf]; omega⟩
      · have HE : Hid (nck ss = 4) := by
          show nck ss = 4
          unfold nck
          rw [if_neg (fun h => by have := h _ (List.getElem_mem hks); rw [hk4] at this; cases this)]
        rw [hk4] at HC
        clear hk4 HK
        generalize ss[k] = s at *
        go_wp2_with fail
        refine (HC.out _).mono ?_
        rintro e w1 ⟨rfl, rfl⟩
        go_wp2
        go_ret
        exact ⟨by rw [HE.out]; rfl, rfl⟩
    · have hge : (len : Int) ≤ (k : Int) := by omega
      have HO : Hid (labsOk ss) := by
        intro s hs
        obtain ⟨i, hi, rfl⟩ := List.getElem_of_mem hs
        exact HK.out i hi (by have := HL.out; omega)
      by_cases hb : 255 < T
      · have HE : Hid (nck ss = 5) := by show nck ss = 5; unfold nck; rw [if_pos HO.out, HT.out, if_pos hb]
        have hb' : (255 : Int) < (T : Int) := by omega
        clear HK
        go_wp2_with fail
        refine (HS.out HO.out _ HR.out.1).mono ?_
        rintro e w1 ⟨rfl, rfl⟩
        go_wp2
        go_ret
        exact ⟨by rw [HE.out]; rfl, rfl⟩
      · have HE : Hid (nck ss = 0) := by show nck ss = 0; unfold nck; rw [if_pos HO.out, HT.out, if_neg hb]
        have hb' : ¬ (255 : Int) < (T : Int) := by omega
        clear HK
        go_wp2_with fail
        refine (HS.out HO.out _ HR.out.1).mono ?_
        rintro e w1 ⟨rfl, rfl⟩
        go_wp2
        go_ret
        exact ⟨by rw [HE.out]; rfl, rfl⟩
theorem labs_nsz {ss : List ByteArray} (h : labsOk ss) : nsz ss ≤ 64 * ss.length + 1 := nsz_bd ss fun s hs => (chk_ok (h s hs)).2
theorem pcheck_arg {a : Option Addr} {n : Nat} {ss : List ByteArray} {w : World} (c : Nat) (h : Arg w a n ss) (hn : n ≤ 8796093021952) : Calls Try.prog 11 #[.slice a n c] w fun e w' => e = .returned (.int .i64 (nck ss)) ∧ Hid (Below w.heap.size w w') :=
  (pcheck_wide a n c ss w h.rd h.len (fun ho => by have := labs_nsz ho; have := h.len; omega) h.n63 h.z63).mono fun e w' h => ⟨h.1, by rw [h.2]; exact Below.refl _ _⟩
theorem Arg.nm {w : World} {a : Option Addr} {n : Nat} {ss : List ByteArray} (h : Arg w a n ss) (hk : nck ss = 0) : Nm w a n ss := ⟨h.rd, h.len, by have := (nck_small hk).1; omega⟩
theorem Arg.belowS {w w' : World} {a : Option Addr} {n : Nat} {ss : List ByteArray} (h : Arg w a n ss) (hb : Below w.heap.size w w') : Arg w' a n ss := ⟨h.rd.below hb, h.len, h.n63, h.z63⟩
theorem parts_walkS (a : Option Addr) (n c : Nat) (d : Int) (ss : List ByteArray) (w : World) (h : Arg w a n ss) (hn : n ≤ 8796093021952) (hc : n ≤ c ∧ c ≤ 9223372036854775807) :
    Calls Try.prog 8 #[.slice a n c, .int .i64 d] w fun e w' => e = .returned (.bool true) ∧ Below w.heap.size w w' := by
  by_cases hk : nck ss = 0
  · exact parts_ok a n c d ss w (h.nm hk) hc hk
  · exact parts_bad a n c d _ w (pcheck_arg c h hn) hk
theorem back_walkS (a b d : Option Addr) (n m c1 c2 len cap : Nat) (ss og : List ByteArray) (zs : List Int) (w : World) (hs : Arg w a n ss) (hg : Arg w b m og) (hn : n ≤ 8796093021952) (hm' : m ≤ 8796093021952) (hz : Rd w d zs) (hl : zs.length = len) (hm : len ≤ 140737488351232) (hd : d = none → cap = 0) :
    Calls Try.prog 6 #[.slice a n c1, .slice b m c2, .slice d len cap] w fun e w' => e = .returned (.bool true) ∧ Below w.heap.size w w' := by
  by_cases hk : nck ss = 0 ∧ nck og = 0
  · exact nback_ok a b d n m c1 c2 len cap ss og zs w (hs.nm hk.1) (hg.nm hk.2) hz hl hm hd hk.1 hk.2
  · exact nback_bad a b n m c1 c2 _ _ _ w (pcheck_arg c1 hs hn) (fun W hW => pcheck_arg c2 (hg.belowS hW) hm') hk
theorem Try.bytesOfText : Try.prog.bytesOf 9 = 16 := by kernel_rfl
theorem Try.bytesOfByte : Try.prog.bytesOf 5 = 1 := by kernel_rfl
/-- How many labels a name within the reach has; how many bytes. -/
theorem reach_name {H : Type} {enc : TypeId × Value → H} {W : World} {a : Option Addr} {len cap : Nat} {d : DataW H} {p : List MemPlace}
    (h : DataW.Trod enc Try.prog W 0 (fun _ => true) true 23 (Value.slice a len cap) d p)
    (hs : ∀ elems spare, d = .slice elems spare → (elems.length + spare.length) * Try.prog.bytesOf 9 ≤ reachBytes) : len ≤ 8796093021952 := by
  obtain ⟨fuel, hf⟩ := h
  rcases open_strs Try.underlying23 Try.underlying9 (by kernel_rfl) hf with ⟨hcs, hx⟩ | ⟨x, l, c, m, S, hcs, _, hl, hm, hmm, hx, hcell⟩
  · simp [Value.cells] at hcs
    omega
  · simp [Value.cells] at hcs
    obtain ⟨rfl, rfl, rfl⟩ := hcs
    have hd := hs _ _ (Prod.mk.inj hx).1
    rw [Try.bytesOfText] at hd
    simp only [List.length_map, List.length_range, reachBytes] at hd
    omega
theorem reach_bytes {H : Type} {enc : TypeId × Value → H} {W : World} {a : Option Addr} {len cap : Nat} {d : DataW H} {p : List MemPlace}
    (h : DataW.Trod enc Try.prog W 0 (fun _ => true) true 51 (Value.slice a len cap) d p)
    (hs : ∀ elems spare, d = .slice elems spare → (elems.length + spare.length) * Try.prog.bytesOf 5 ≤ reachBytes) : len ≤ 140737488351232 := by
  obtain ⟨fuel, hf⟩ := h
  rcases open_ints Try.underlying51 Try.underlying5 (by kernel_rfl) hf with ⟨hcs, _⟩ | ⟨x, l, c, zs, hcs, _, hl, hm, hz, hx, hcell, hwz⟩
  · simp [Value.cells] at hcs
    omega
  · simp [Value.cells] at hcs
    obtain ⟨rfl, rfl, rfl⟩ := hcs
    have hz' : zs.length = cap := by simpa using hz
    have hd := hs _ _ (Prod.mk.inj hx).1
    rw [Try.bytesOfByte] at hd
    simp only [lits, List.length_map, List.length_take, List.length_drop, reachBytes] at hd
    omega
end Go.Proofs.Ytkbpjaojgkpffaa
