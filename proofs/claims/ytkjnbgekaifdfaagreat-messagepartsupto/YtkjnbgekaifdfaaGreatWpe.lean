/- Texts laid together, in parts: Mpa Sqc Sqd Sqj Mba Ak Bwl Mpb Va Vp Vb Vc Vd Ve. -/
import Derived.Test.YtkjnbgekaifdfaaGreatWpd
import Derived.Lib.Hide
import Derived.WalkMore
import Derived.Maps.OwnSet
import Derived.LaidEqlPtr
import Derived.WalkSpells
import Derived.BigRegion
import Derived.Deep.RegionHeld3
import Derived.Deep.QuietTactic
import Derived.BigQuiet
import Derived.Laws.BitsAllLaws
import Derived.WalkKit
set_option maxRecDepth 100000
set_option linter.unusedVariables false
set_option linter.unusedSimpArgs false
namespace Go.Proofs.YtkjnbgekaifdfaaGreat
open Go.ChangeShapes Go.WideShapes Go.ChangeAt Go.RowKit
abbrev PLs := List (ByteArray × Nat)
abbrev Pc := PLs -> Nat -> List Int × PLs
def pby (zs : List Int) : Pc := fun pl _ => (zs, pl)
def pnm (ss : List ByteArray) (back : Bool) : Pc := fun pl n => (qshort (if back then pl else []) ss, qkeep pl n (qown (if back then pl else []) ss) ss)
def psq (f g : Pc) : Pc := fun pl n => ((f pl n).1 ++ (g (f pl n).2 (n + (f pl n).1.length)).1, (g (f pl n).2 (n + (f pl n).1.length)).2)
def pls : List Pc -> Pc
 | [] => pby []
 | f :: r => psq f (pls r)
abbrev WSt := Option (List Int × PLs)
def prun (f : Pc) (s : WSt) : WSt := s.bind fun s => if 65535 < s.1.length + (f s.2 s.1.length).1.length then none else some (s.1 ++ (f s.2 s.1.length).1, (f s.2 s.1.length).2)
theorem prun_seq (f g : Pc) (s : WSt) : prun (psq f g) s = prun g (prun f s) := by
 cases s with
 | none => rfl
 | some s =>
   obtain ⟨tx, pl⟩ := s
   simp only [prun, Option.bind_some, psq, List.length_append]
   by_cases h1 : 65535 < tx.length + (f pl tx.length).1.length
   · rw [if_pos (by omega), if_pos h1]; rfl
   · rw [if_neg h1]
     simp only [Option.bind_some, List.length_append]
     by_cases h2 : 65535 < tx.length + (f pl tx.length).1.length + (g (f pl tx.length).2 (tx.length + (f pl tx.length).1.length)).1.length
     · rw [if_pos h2, if_pos (by omega)]
     · rw [if_neg h2, if_neg (by omega), List.append_assoc]
theorem psq_assoc (f g h : Pc) : psq (psq f g) h = psq f (psq g h) := by
 funext pl n
 simp only [psq, List.append_assoc, List.length_append, Nat.add_assoc]
theorem pls_app (a b : List Pc) : pls (a ++ b) = psq (pls a) (pls b) := by
 induction a with
 | nil => funext pl n; simp [pls, psq, pby]
 | cons f r ih => rw [List.cons_append, pls, ih, pls, psq_assoc]
def ahd (t : Nat) : Nat := if t = 15 then 2 else if t = 33 then 6 else 0
def cnt (t : Nat) : Nat := if t = 2 ∨ t = 5 ∨ t = 12 ∨ t = 15 ∨ t = 33 then 1 else if t = 6 then 2 else 0
def sqt (t : Nat) : Bool := decide (t = 2 ∨ t = 5 ∨ t = 6 ∨ t = 12 ∨ t = 15)
def dns (d : Dat) : Nat := (d.ns.map nsz).sum
def pdat (t : Nat) (d : Dat) : Pc := psq (pby ((writeF t d).take (ahd t))) (psq (pls (d.ns.map fun n => pnm n (sqt t))) (pby ((writeF t d).drop (ahd t + dns d))))
def psz (f : Pc) : Pc := fun pl n => (numB (f pl (n + 2)).1.length 2 ++ (f pl (n + 2)).1, (f pl (n + 2)).2)
def prec (r : Rec) : Pc := psq (pnm r.ow true) (psq (pby (numB r.t 2)) (psq (pby (numB r.cl 2)) (psq (pby (numB r.tt 4)) (psz (pdat r.t r.d)))))
def pqn (q : Qn) : Pc := psq (pnm q.nm true) (psq (pby (numB q.ty 2)) (pby (numB q.cl 2)))
def g16 (zs : List Int) (p : Nat) : Option (Nat × Nat) := if p + 2 <= zs.length then some (gNum zs p 2, p + 2) else none
def g32 (zs : List Int) (p : Nat) : Option (Nat × Nat) := if p + 4 <= zs.length then some (gNum zs p 4, p + 4) else none
def gnm (zs : List Int) (p : Nat) : Option (List ByteArray × Nat) := qgo zs true p p none []
def gmany {α : Type} (f : Nat -> Option (α × Nat)) : Nat -> Nat -> Option (List α × Nat)
 | 0, p => some ([], p)
 | k + 1, p => (f p).bind fun x => (gmany f k x.2).map fun y => (x.1 :: y.1, y.2)
def gpl (t : Nat) (zs : List Int) (p e : Nat) : Option (List Int) :=
 if sqt t then
   if p + ahd t <= e then (gmany (gnm zs) (cnt t) (p + ahd t)).bind fun x => if x.2 <= e then some ((zs.drop p).take (ahd t) ++ (x.1.flatMap nmB ++ (zs.drop x.2).take (e - x.2))) else none
   else none
 else some ((zs.drop p).take (e - p))
def gdr (t : Nat) (b : List Int) : Option Dat := if mayT t = true /\ b.length <= 65535 then dreadF t b else none
def gdat (t size : Nat) (zs : List Int) (p : Nat) : Option (Dat × Nat) :=
 if p + size <= zs.length then (gpl t zs p (p + size)).bind fun b => (gdr t b).map fun d => (d, p + size) else none
def grec (zs : List Int) (p : Nat) : Option (Rec × Nat) :=
 (gnm zs p).bind fun o => (g16 zs o.2).bind fun t => (g16 zs t.2).bind fun c => (g32 zs c.2).bind fun l => (g16 zs l.2).bind fun s => (gdat t.1 s.1 zs s.2).map fun d => (⟨o.1, t.1, c.1, l.1, d.1⟩, d.2)
def gqn (zs : List Int) (p : Nat) : Option (Qn × Nat) :=
 (gnm zs p).bind fun o => (g16 zs o.2).bind fun t => (g16 zs t.2).map fun c => (⟨o.1, t.1, c.1⟩, c.2)
def Bak {α : Type} (f : Pc) (g : List Int -> Nat -> Option (α × Nat)) (x : α) : Prop :=
 ∀ (tx : List Int) (pl : PLs) (R : List Int), QInv tx pl -> tx.length + (f pl tx.length).1.length <= 65535 ->
   g (tx ++ ((f pl tx.length).1 ++ R)) tx.length = some (x, tx.length + (f pl tx.length).1.length)
def Kps (f : Pc) : Prop := ∀ (tx : List Int) (pl : PLs), QInv tx pl -> QInv (tx ++ (f pl tx.length).1) (f pl tx.length).2
def Grw (f : Pc) : Prop := ∀ (pl : PLs) (n : Nat), (f pl n).2.length <= pl.length + (f pl n).1.length
theorem QInv.nil0 (tx : List Int) : QInv tx [] := fun k p h => by simp at h
theorem kps_by (zs : List Int) : Kps (pby zs) := fun tx pl h => h.more
theorem kps_seq {f g : Pc} (hf : Kps f) (hg : Kps g) : Kps (psq f g) := by
 intro tx pl h
 have h1 := hf tx pl h
 have h2 := hg _ _ h1
 simp only [List.length_append] at h2
 simp only [psq, <- List.append_assoc]
 exact h2
theorem kps_ls : ∀ l : List Pc, (∀ f ∈ l, Kps f) -> Kps (pls l)
 | [], _ => kps_by []
 | f :: r, h => kps_seq (h f (by simp)) (kps_ls r fun g hg => h g (List.mem_cons_of_mem _ hg))
theorem own_short (pl : PLs) : ∀ t : List ByteArray, qown pl t <= (qshort pl t).length
 | [] => by simp [qown, qshort]
 | s :: t => by
   have ih := own_short pl t
   unfold qown qshort
   split
   · simp
   · simp; omega
theorem grw_nm (ss : List ByteArray) (back : Bool) : Grw (pnm ss back) := by
 intro pl n
 have h1 := keep_len pl n (qown (if back then pl else []) ss) ss
 have h2 := own_short (if back then pl else []) ss
 simp only [pnm]
 omega
theorem kps_nm (ss : List ByteArray) (back : Bool) (hk : nck ss = 0) : Kps (pnm ss back) := by
 intro tx pl hI
 have hI0 : QInv tx (if back then pl else []) := by cases back with | true => exact hI | false => exact QInv.nil0 tx
 have := keep_inv (if back then pl else []) [] ss tx pl (qown (if back then pl else []) ss) (Nat.le_refl _) hI0 (labs_of hk) (nck_small hk).1 hI.more (fun k p h => Nat.le_of_lt (hI0 k p h).1)
 simpa [pnm] using this
theorem bak_nm (ss : List ByteArray) (back : Bool) (hk : nck ss = 0) : Bak (pnm ss back) gnm ss := by
 intro tx pl R hI _
 have hI0 : QInv tx (if back then pl else []) := by cases back with | true => exact hI | false => exact QInv.nil0 tx
 have h := short_stands (if back then pl else []) ss tx R tx.length hI0 (labs_of hk) (fun k p h => (hI0 k p h).1)
 have := h.read none [] (by simpa using hk)
 simpa [gnm, pnm] using this
theorem bak_16 (n : Nat) (h : n <= 65535) : Bak (pby (numB n 2)) g16 n := by
 intro tx pl R hI _
 have hl := numB_len n 2 (by omega)
 show g16 (tx ++ (numB n 2 ++ R)) tx.length = some (n, tx.length + (numB n 2).length)
 unfold g16
 rw [if_pos (by simp [hl]), gNum_at tx R n 2 tx.length (by omega) rfl, hl]
theorem bak_32 (n : Nat) (h : n <= 4294967295) : Bak (pby (numB n 4)) g32 n := by
 intro tx pl R hI _
 have hl := numB_len n 4 (by omega)
 show g32 (tx ++ (numB n 4 ++ R)) tx.length = some (n, tx.length + (numB n 4).length)
 unfold g32
 rw [if_pos (by simp [hl]), gNum_at tx R n 4 tx.length (by omega) rfl, hl]
theorem kps_sz {f : Pc} (h : Kps f) : Kps (psz f) := by
 intro tx pl hI
 have h1 := h (tx ++ numB (f pl (tx.length + 2)).1.length 2) pl hI.more
 have hl : (numB (f pl (tx.length + 2)).1.length 2).length = 2 := numB_len _ _ (by omega)
 simp only [List.length_append, hl] at h1
 simp only [psz, <- List.append_assoc]
 exact h1
theorem kps_dat {t : Nat} {d : Dat} (h : checkF t d = 0) : Kps (pdat t d) := by
 refine kps_seq (kps_by _) (kps_seq (kps_ls _ ?_) (kps_by _))
 intro f hf
 obtain ⟨n, hn, rfl⟩ := List.mem_map.1 hf
 exact kps_nm n _ ((check_parts h).2.2.1 n hn)
theorem kps_rec {r : Rec} (ho : nck r.ow = 0) (h : checkF r.t r.d = 0) : Kps (prec r) :=
 kps_seq (kps_nm _ _ ho) (kps_seq (kps_by _) (kps_seq (kps_by _) (kps_seq (kps_by _) (kps_sz (kps_dat h)))))
theorem kps_qn {q : Qn} (ho : nck q.nm = 0) : Kps (pqn q) := kps_seq (kps_nm _ _ ho) (kps_seq (kps_by _) (kps_by _))
theorem bak_bind {α β : Type} {f g : Pc} {r : List Int -> Nat -> Option (α × Nat)} {k : α -> List Int -> Nat -> Option (β × Nat)} {x : α} {y : β} (hf : Bak f r x) (hk : Kps f) (hg : Bak g (k x) y) : Bak (psq f g) (fun zs p => (r zs p).bind fun a => k a.1 zs a.2) y := by
 intro tx pl R hI hl
 simp only [psq, List.length_append] at hl ⊢
 have h1 := hf tx pl ((g (f pl tx.length).2 (tx.length + (f pl tx.length).1.length)).1 ++ R) hI (by omega)
 have h2 := hg (tx ++ (f pl tx.length).1) (f pl tx.length).2 R (hk tx pl hI) (by simp only [List.length_append]; omega)
 simp only [List.length_append] at h2
 simp only [List.append_assoc] at h1 h2 ⊢
 rw [h1]
 simp only [Option.bind_some]
 rw [h2, Nat.add_assoc]
theorem bak_map {α β : Type} {f : Pc} {r : List Int -> Nat -> Option (α × Nat)} {x : α} (F : α -> β) (hf : Bak f r x) : Bak f (fun zs p => (r zs p).map fun a => (F a.1, a.2)) (F x) := by
 intro tx pl R hI hl
 simp only [hf tx pl R hI hl, Option.map_some]
theorem bak_many {α : Type} {r : List Int -> Nat -> Option (α × Nat)} : ∀ (l : List (Pc × α)), (∀ x ∈ l, Bak x.1 r x.2 /\ Kps x.1) -> Bak (pls (l.map (·.1))) (fun zs => gmany (r zs) l.length) (l.map (·.2))
 | [], _ => by intro tx pl R hI hl; simp [pls, pby, gmany]
 | x :: l, h => by
   have h0 := h x (by simp)
   have ih := bak_many l fun y hy => h y (List.mem_cons_of_mem _ hy)
   exact bak_bind (k := fun a zs p => (gmany (r zs) l.length p).map fun y => (a :: y.1, y.2)) h0.1 h0.2 (bak_map (fun y => x.2 :: y) ih)
end Go.Proofs.YtkjnbgekaifdfaaGreat
namespace Go.Proofs.YtkjnbgekaifdfaaGreat
open Go.ChangeShapes Go.WideShapes Go.ChangeAt Go.RowKit
theorem val_two (zs : List Int) (p : Nat) (h : p + 2 <= zs.length) : val ((zs.drop p).take 2) = 256 * zs.getD p 0 + zs.getD (p + 1) 0 := by
 have e : (zs.drop p).take 2 = [zs.getD p 0, zs.getD (p + 1) 0] := by
   apply List.ext_getElem
   · simp; omega
   · intro i h1 h2
     have : i = 0 ∨ i = 1 := by simp at h2; omega
     rcases this with rfl | rfl
     · simp [List.getD_eq_getElem?_getD, List.getElem?_eq_getElem (show p < zs.length by omega)]
     · simp [List.getD_eq_getElem?_getD, List.getElem?_eq_getElem (show p + 1 < zs.length by omega)]
 rw [e]
 simp [val]
 try omega
set_option maxHeartbeats 400000 in
theorem pointed_no (a : Option Addr) (len cap p : Nat) (w : World) (hc : len <= cap) (hm : cap <= 9223372036854775807) (hn : len < p + 2) :
   Calls Tryz.prog 128 #[.slice a len cap, .int .i64 p] w fun e w' => e = .returned (.tuple #[.int .i64 0, .bool false]) /\ w' = w := by
 have K := Lib.hid (u16_no a len cap p w hc hm (.inr (by omega)))
 go_enter Tryz.func128, Tryz.ntmps128
 go_wp2_with fail
 refine K.out.mono ?_
 rintro e w1 ⟨rfl, rfl⟩
 go_wp2
 go_ret2
 exact ⟨rfl, rfl⟩
set_option maxHeartbeats 400000 in
theorem pointed_low (a : Option Addr) (len cap p : Nat) (zs : List Int) (w : World) (hr : Rd w a zs) (hl : zs.length = len) (hc : len <= cap) (hm : cap <= 9223372036854775807) (hn : p + 2 <= len) (h1 : zs.getD p 0 < 192) :
   Calls Tryz.prog 128 #[.slice a len cap, .int .i64 p] w fun e w' => e = .returned (.tuple #[.int .i64 0, .bool false]) /\ w' = w := by
 have K := Lib.hid (u16_yes a len cap p zs w hr hl hc hm hn)
 have hb := hr.bd p
 have hb1 := hr.bd (p + 1)
 rw [val_two zs p (by omega)] at K
 generalize zs.getD p 0 = x at *
 generalize zs.getD (p + 1) 0 = y at *
 obtain ⟨z, hz⟩ : ∃ z, 256 * x + y = z := ⟨_, rfl⟩
 rw [hz] at K
 have hz1 : z < 49152 := by omega
 clear hz
 go_enter Tryz.func128, Tryz.ntmps128
 go_wp2_with fail
 refine K.out.mono ?_
 rintro e w1 ⟨rfl, rfl⟩
 go_wp2
 go_ret2
 exact ⟨rfl, rfl⟩
set_option maxHeartbeats 400000 in
theorem pointed_yes (a : Option Addr) (len cap p : Nat) (zs : List Int) (w : World) (hr : Rd w a zs) (hl : zs.length = len) (hc : len <= cap) (hm : cap <= 9223372036854775807) (hn : p + 2 <= len) (h1 : 192 <= zs.getD p 0) :
   Calls Tryz.prog 128 #[.slice a len cap, .int .i64 p] w fun e w' => e = .returned (.tuple #[.int .i64 (qto zs p : Nat), .bool true]) /\ w' = w := by
 have K := Lib.hid (u16_yes a len cap p zs w hr hl hc hm hn)
 have hb := hr.bd p
 have hb1 := hr.bd (p + 1)
 rw [val_two zs p (by omega)] at K
 have hq : (qto zs p : Int) = 256 * zs.getD p 0 + zs.getD (p + 1) 0 - 49152 := by unfold qto; omega
 generalize zs.getD p 0 = x at *
 generalize zs.getD (p + 1) 0 = y at *
 generalize qto zs p = q at *
 obtain ⟨z, hz⟩ : ∃ z, 256 * x + y = z := ⟨_, rfl⟩
 have HQ : Hid ((q : Int) = z - 49152) := (show _ = _ by rw [hq, hz])
 rw [hz] at K
 have hz1 : ¬ z < 49152 := by omega
 have hz2 : z <= 65535 := by omega
 clear hz hq
 go_enter Tryz.func128, Tryz.ntmps128
 go_wp2_with fail
 refine K.out.mono ?_
 rintro e w1 ⟨rfl, rfl⟩
 go_wp2
 go_ret2
 exact ⟨by rw [HQ.out]; rfl, rfl⟩
end Go.Proofs.YtkjnbgekaifdfaaGreat
namespace Go.Proofs.YtkjnbgekaifdfaaGreat
open Go.ChangeShapes Go.WideShapes Go.ChangeAt Go.RowKit
def bhI : Option Nat -> Nat
 | none => 0
 | some q => q
def SPost (r : List ByteArray × Int × Int) (w : World) (e : Ending) (w' : World) : Prop :=
 ∃ v ys, e = .returned (.tuple #[v, .int .i64 r.2.1, .int .i64 r.2.2]) /\ Hid (OwnT w.heap.size w' v r.1.length ys 1000 /\ ys.take r.1.length = r.1 /\ Below w.heap.size w w')
def qres : Option (List ByteArray × Nat) -> List ByteArray × Int × Int
 | some (n, q) => (n, q, 0)
 | none => ([], 0, 8)
theorem nck_len {ss : List ByteArray} (h : nck ss = 0) : ss.length <= 254 := by
 have := nck_small h; have := nsz_len ss; omega
theorem newq_below (w : World) (o : Obj) : Below w.heap.size w (w.alloc o) := (Below.refl _ _).alloc (Nat.le_refl _) _
theorem rd_at {w : World} {a : Option Addr} {zs : List Int} (h : Rd w a zs) (p : Nat) (hp : p < zs.length) : ∃ b o, a = some ⟨b, o, none⟩ /\ b < w.heap.size /\ w.cell? ⟨b, o + p, none⟩ = some (.int .u8 (zs.getD p 0)) := by
 rcases h.1 with h1 | ⟨b, o, rfl, h1, h2⟩
 · subst h1; simp at hp
 · refine ⟨b, o, rfl, h1, ?_⟩
   have := h2 p hp
   rw [this]
   all_goals simp [List.getD_eq_getElem?_getD, List.getElem?_eq_getElem hp]
theorem cell_below {w w' : World} {b : Nat} {o : Nat} {v : Value} (h : Below w.heap.size w w') (hb : b < w.heap.size) (hc : w.cell? ⟨b, o, none⟩ = some v) : w'.cell? ⟨b, o, none⟩ = some v := by
 have := h.block b hb
 simpa [World.cell?, this] using hc
set_option maxHeartbeats 4000000 in
theorem sread_in (a : Option Addr) (len cap d : Nat) (back : Bool) (zs : List Int) (w : World) (hr : Rd w a zs) (hl : zs.length = len) (hm : len <= 140737488355328) (hc : len <= cap) (hc2 : cap <= 9223372036854775807) (hd : d <= len) :
   Calls Tryz.prog 113 #[.slice a len cap, .int .i64 d, .bool back] w (SPost (qres (qgo zs back d d none [])) w) := by
 obtain ⟨R, hR⟩ : ∃ R, qgo zs back d d none [] = R := ⟨_, rfl⟩
 have HR0 : Hid (qgo zs back d d none [] = R) := hR
 rw [hR]
 clear hR
 have HR : Hid (Rd w a zs) := hr
 have HL : Hid (zs.length = len) := hl
 clear hr hl
 have hd1 : ¬ (d : Int) < 0 := by omega
 have hd2 : (d : Int) <= (len : Int) := by omega
 have hd3 : ¬ len < d := by omega
 go_enter Tryz.func113, Tryz.ntmps113
 go_wp2
 go_step3
 go_wp2
 go_step3
 go_wp2
 go_loopw [1, 9, 10, 11, 12] (fun x1 v x10 x11 x12 wr => ∃ (p st B : Nat) (bh : Option Nat) (out : List ByteArray), x1 = .int .i64 p /\ x10 = .int .i64 st /\ x11 = .int .i64 B /\ x12 = .bool false /\ p <= len /\ st <= len /\ B <= len /\ Hid (B = bhI bh /\ (∀ q, bh = some q -> 0 < q)) /\ Hid (qgo zs back p st bh out = R) /\ Hid (nck out = 0) /\ Hid (∃ ys, OwnT w.heap.size wr v out.length ys 1000 /\ ys.take out.length = out) /\ Hid (Below w.heap.size w wr))
   (fun x1 _ x10 _ _ _ => (intOf x10).toNat * (len + 2) + (len + 1 - (intOf x1).toNat))
 case atStart => exact ⟨d, d, 0, none, [], rfl, rfl, rfl, rfl, hd, hd, Nat.zero_le _, ⟨rfl, by simp⟩, HR0, nck_nil, ⟨[], OwnT.nil _ _ _, rfl⟩, Below.refl _ _⟩
 case round =>
   obtain ⟨p, st, B, bh, out, rfl, rfl, rfl, rfl, hp, hst, hBl, HBH, HQ, HC, HW, HB⟩ := hrel
   clear HR0
   by_cases hpl : p < len
   · have hpl' : (p : Int) < (len : Int) := by omega
     have hpz : p < zs.length := by rw [HL.out]; exact hpl
     have hbd := HR.out.bd p
     by_cases h0 : zs.getD p 0 = 0
     · have e : R = some (out, bh.getD (p + 1)) := by rw [<- HQ.out]; exact qgo_end hpz h0
       subst e
       obtain ⟨b, o, rfl, hbo, hcz⟩ := rd_at HR.out p hpz
       have hcz2 := cell_below HB.out hbo hcz
       rw [h0] at hcz2
       obtain ⟨ys, hO, hT⟩ := HW.out
       clear hcz HQ HR
       by_cases hB0 : B = 0
       · subst hB0
         have e2 : bh.getD (p + 1) = p + 1 := by
           cases hh : bh with
           | none => rfl
           | some q => have h1 := HBH.out.1; have h2 := HBH.out.2 q hh; rw [hh] at h1; simp only [bhI] at h1; omega
         have HE : Hid (qres (some (out, bh.getD (p + 1))) = (out, ((p + 1 : Nat) : Int), 0)) := (show _ = _ by rw [e2]; rfl)
         clear e2
         go_wp2_with fail
         try rw [Exit.noGoto_ret]
         go_ret3
         rw [HE.out]
         exact ⟨_, ys, by go_num, hO, hT, HB.out⟩
       · have e2 : bh.getD (p + 1) = B := by
           cases hh : bh with
           | none => have h1 := HBH.out.1; rw [hh] at h1; exact absurd h1 hB0
           | some q => have h1 := HBH.out.1; rw [hh] at h1; exact h1.symm
         have HE : Hid (qres (some (out, bh.getD (p + 1))) = (out, (B : Int), 0)) := (show _ = _ by rw [e2]; rfl)
         clear e2
         have hB1 : ((B : Int) == 0) = false := by simp; omega
         go_wp2_with fail
         try rw [Exit.noGoto_ret]
         go_ret3
         rw [HE.out]
         exact ⟨_, ys, by go_num, hO, hT, HB.out⟩
     · obtain ⟨b, o, rfl, hbo, hcz⟩ := rd_at HR.out p hpz
       have hcz2 := cell_below HB.out hbo hcz
       clear hcz
       obtain ⟨c, hcc⟩ : ∃ c : Nat, zs.getD p 0 = (c : Int) := ⟨(zs.getD p 0).toNat, by omega⟩
       have HCC : Hid (zs.getD p 0 = (c : Int)) := hcc
       have HG0 : Hid (¬ zs.getD p 0 = 0) := h0
       rw [hcc] at hcz2 hbd h0
       have hc0 : ((c : Int) == 0) = false := by simpa using h0
       have hc255 : c <= 255 := by omega
       by_cases h63 : c <= 63
       · have HG1 : Hid (zs.getD p 0 <= 63) := (by show zs.getD p 0 <= 63; rw [hcc]; omega)
         have hc63 : (c : Int) <= 63 := by omega
         by_cases hfit : p + 1 + c <= len
         · have hsl := qlab_size (l := zs) (p := p + 1) (n := c) (by rw [HL.out]; exact hfit)
           have hcap : p + 1 < cap := by omega
           have hfit2 : (p : Int) + 1 + (c : Int) <= (len : Int) := by omega
           have HRs : Hid (Rd w (some ⟨b, o + (p + 1), none⟩) ((zs.drop (p + 1)).take c)) := HR.out.cut (p + 1) c (by rw [HL.out]; omega) (fun h b' o' e => by cases e; rfl)
           have hcv : (convert 29 9 (.slice (some ⟨b, o + (p + 1), none⟩) c (cap - (p + 1)))).run Tryz.prog wr = .ok (.string (qlab zs (p + 1) c)) wr := conv_rd _ _ _ _ _ (HRs.out.below HB.out) (by simp; have := HL.out; omega)
           have HKn : Hid (∀ W a' c', RdT W a' (out ++ [qlab zs (p + 1) c]) -> Calls Tryz.prog 42 #[.slice a' (out.length + 1) c'] W fun e w' => e = .returned (.int .i64 (nck (out ++ [qlab zs (p + 1) c]))) /\ w' = W) := fun W a' c' hW => pm_check c' ⟨hW, by simp, by rw [nsz_snoc, hsl]; have := (nck_small HC.out).1; omega⟩
           have hol := nck_len HC.out
           have HG2 : Hid (p + 1 + (zs.getD p 0).toNat <= zs.length) := (by show _ <= _; rw [HCC.out, HL.out]; simpa using hfit)
           have e1 : (zs.getD p 0).toNat = c := by rw [HCC.out]; simp
           by_cases hk : nck (out ++ [qlab zs (p + 1) c]) = 0
           · have HQ2 : Hid (qgo zs back (p + 1 + c) st bh (out ++ [qlab zs (p + 1) c]) = R) := (show _ = _ by rw [<- HQ.out, qgo_lab hpz HG0.out HG1.out HG2.out (by rw [e1]; exact hk), e1])
             have HC2 : Hid (nck (out ++ [qlab zs (p + 1) c]) = 0) := hk
             rw [hk] at HKn
             generalize qlab zs (p + 1) c = s at *
             obtain ⟨ys, hO, hT⟩ := HW.out
             have hnb : Below wr.heap.size wr (wr.alloc (.cells #[.string s] 9)) := newq_below _ _
             have HO2 : Hid (OwnT w.heap.size (wr.alloc (.cells #[.string s] 9)) u9 out.length ys 1000 /\ ys.take out.length = out) := ⟨hO.below hnb, hT⟩
             have HNB : Hid (Below wr.heap.size wr (wr.alloc (.cells #[.string s] 9))) := hnb
             clear hO hT hnb HQ HR HG0 HG1 HG2 HCC hcc hbd hk e1
             go_wp2_with (at_builtin; refine wpList_append_T tyN _ rfl _ _ 51 9 Tryz.underlying51 rfl w.heap.size _ out.length ys 1000 rfl HO2.out.1 (some ⟨wr.heap.size, 0, none⟩) 1 1 [s] rfl (one_rdT wr s) rfl (by intro x hx; simp at hx; subst hx; omega) (by omega) (Nat.le_trans HB.out.size HNB.out.size) ?_; intro v' w' ys' hO' hT' hG'; have HB2 : Hid (Below w.heap.size w w') := ((HB.out.trans (HNB.out.mono HB.out.size)).grown hG' (Nat.le_trans HB.out.size HNB.out.size) HO2.out.1.1.lt); clear hG')
             obtain ⟨ao', rfl, _⟩ := hO'.out.shape
             have hrd : RdT w' ao' (out ++ [s]) := by
               have := hO'.out.rd (out.length + 1)
               rwa [hT'.out, HO2.out.2] at this
             refine (HKn.out w' ao' _ hrd).mono ?_
             rintro e w2 ⟨rfl, rfl⟩
             clear hrd HKn
             go_wp2_with fail
             go_roundw
             case rel => exact ⟨p + 1 + c, st, B, bh, out ++ [s], by go_num, rfl, rfl, rfl, by omega, by omega, by omega, HBH, HQ2, HC2, ⟨ys', by simpa using hO'.out, by rw [List.length_append]; exact hT'.out.trans (by rw [HO2.out.2])⟩, HB2⟩
             case measure => simp [intOf]; omega
           · have e : R = none := by rw [<- HQ.out]; exact qgo_labBad hpz HG0.out HG1.out HG2.out (by rw [e1]; exact hk)
             subst e
             generalize hN : nck (out ++ [qlab zs (p + 1) c]) = N at *
             have hN1 : (N != 0) = true := by simpa using hk
             have hN2 : (N == 0) = false := by simpa using hk
             generalize qlab zs (p + 1) c = s at *
             obtain ⟨ys, hO, hT⟩ := HW.out
             have hnb : Below wr.heap.size wr (wr.alloc (.cells #[.string s] 9)) := newq_below _ _
             have HO2 : Hid (OwnT w.heap.size (wr.alloc (.cells #[.string s] 9)) u9 out.length ys 1000 /\ ys.take out.length = out) := ⟨hO.below hnb, hT⟩
             have HNB : Hid (Below wr.heap.size wr (wr.alloc (.cells #[.string s] 9))) := hnb
             clear hO hT hnb HQ HR HG0 HG1 HG2 HCC hcc hbd hk e1 hN
             go_wp2_with (at_builtin; refine wpList_append_T tyN _ rfl _ _ 51 9 Tryz.underlying51 rfl w.heap.size _ out.length ys 1000 rfl HO2.out.1 (some ⟨wr.heap.size, 0, none⟩) 1 1 [s] rfl (one_rdT wr s) rfl (by intro x hx; simp at hx; subst hx; omega) (by omega) (Nat.le_trans HB.out.size HNB.out.size) ?_; intro v' w' ys' hO' hT' hG'; have HB2 : Hid (Below w.heap.size w w') := ((HB.out.trans (HNB.out.mono HB.out.size)).grown hG' (Nat.le_trans HB.out.size HNB.out.size) HO2.out.1.1.lt); clear hG')
             obtain ⟨ao', rfl, _⟩ := hO'.out.shape
             have hrd : RdT w' ao' (out ++ [s]) := by
               have := hO'.out.rd (out.length + 1)
               rwa [hT'.out, HO2.out.2] at this
             refine (HKn.out w' ao' _ hrd).mono ?_
             rintro e w2 ⟨rfl, rfl⟩
             clear hrd HKn
             go_wp2_with fail
             try rw [Exit.noGoto_ret]
             go_ret3
             exact ⟨.slice none 0 0, [], rfl, OwnT.nil _ _ _, rfl, HB2.out⟩
         · have hfit' : (len : Int) < (p : Int) + 1 + (c : Int) := by omega
           have e : R = none := by rw [<- HQ.out]; exact qgo_labLong hpz HG0.out HG1.out (by rw [HCC.out, HL.out]; simpa using hfit)
           subst e
           clear HQ HR
           go_wp2_with fail
           try rw [Exit.noGoto_ret]
           go_ret3
           exact ⟨.slice none 0 0, [], rfl, OwnT.nil _ _ _, rfl, HB.out⟩
       · have hc63 : 63 < (c : Int) := by omega
         have HG1 : Hid (¬ zs.getD p 0 <= 63) := (by show ¬ zs.getD p 0 <= 63; rw [hcc]; omega)
         cases back with
         | false =>
           have e : R = none := by rw [<- HQ.out]; exact qgo_no hpz HG1.out (by simp)
           subst e
           clear HQ HR
           go_wp2_with fail
           try rw [Exit.noGoto_ret]
           go_ret3
           exact ⟨.slice none 0 0, [], rfl, OwnT.nil _ _ _, rfl, HB.out⟩
         | true =>
           by_cases hok : 192 <= c /\ p + 1 < len
           · have KP : Hid (∀ W, Below w.heap.size w W -> Calls Tryz.prog 128 #[.slice (some ⟨b, o, none⟩) len cap, .int .i64 p] W fun e w' => e = .returned (.tuple #[.int .i64 (qto zs p : Nat), .bool true]) /\ w' = W) := fun W hW => pointed_yes _ len cap p zs W (HR.out.below hW) HL.out hc hc2 (by omega) (by rw [HCC.out]; omega)
             have HG2 : Hid (true = true /\ 192 <= zs.getD p 0 /\ p + 1 < zs.length) := ⟨rfl, by rw [hcc]; omega, by rw [HL.out]; omega⟩
             by_cases hto : qto zs p < st
             · have HQ2 : Hid (qgo zs true (qto zs p) (qto zs p) (some (bh.getD (p + 2))) out = R) := (show _ = _ by rw [<- HQ.out]; exact (qgo_ptr hpz HG2.out hto).symm)
               generalize qto zs p = t at *
               have hto' : (t : Int) < (st : Int) := by omega
               clear HQ HR HG0 HG1 HG2 HCC hcc hbd
               have hmeas : t * (len + 2) + (len + 1 - t) < st * (len + 2) + (len + 1 - p) := by
                 have h1 : (t + 1) * (len + 2) <= st * (len + 2) := Nat.mul_le_mul_right _ (by omega)
                 have h2 : (t + 1) * (len + 2) = t * (len + 2) + (len + 2) := by rw [Nat.add_mul, Nat.one_mul]
                 omega
               by_cases hB0 : B = 0
               · subst hB0
                 have HBH2 : Hid (p + 2 = bhI (some (bh.getD (p + 2))) /\ (∀ q, some (bh.getD (p + 2)) = some q -> 0 < q)) := by
                   cases hh : bh with
                   | none => exact ⟨rfl, fun q hq => by cases hq; simp⟩
                   | some q => have h1 := HBH.out.1; have h2 := HBH.out.2 q hh; rw [hh] at h1; simp only [bhI] at h1; omega
                 go_wp2_with fail
                 refine (KP.out _ HB.out).mono ?_
                 rintro e w1 ⟨rfl, rfl⟩
                 clear KP
                 go_wp2_with fail
                 go_roundw
                 case rel => exact ⟨t, t, p + 2, some (bh.getD (p + 2)), out, rfl, rfl, by go_num, rfl, by omega, by omega, by omega, HBH2, HQ2, HC, HW, HB⟩
                 case measure => simp [intOf]; exact hmeas
               · have hB1 : ((B : Int) == 0) = false := by simp; omega
                 have HBH2 : Hid (B = bhI (some (bh.getD (p + 2))) /\ (∀ q, some (bh.getD (p + 2)) = some q -> 0 < q)) := by
                   cases hh : bh with
                   | none => have h1 := HBH.out.1; rw [hh] at h1; exact absurd h1 hB0
                   | some q => have h1 := HBH.out.1; have h2 := HBH.out.2 q hh; rw [hh] at h1; exact ⟨h1, fun r hr => by cases hr; exact h2⟩
                 go_wp2_with fail
                 refine (KP.out _ HB.out).mono ?_
                 rintro e w1 ⟨rfl, rfl⟩
                 clear KP
                 go_wp2_with fail
                 go_roundw
                 case rel => exact ⟨t, t, B, some (bh.getD (p + 2)), out, rfl, rfl, rfl, rfl, by omega, by omega, by omega, HBH2, HQ2, HC, HW, HB⟩
                 case measure => simp [intOf]; exact hmeas
             · have e : R = none := by rw [<- HQ.out]; exact qgo_ptrBad hpz HG2.out hto
               subst e
               generalize qto zs p = t at *
               have hto' : (st : Int) <= (t : Int) := by omega
               clear HQ HR HG0 HG1 HG2 HCC hcc hbd
               go_wp2_with fail
               refine (KP.out _ HB.out).mono ?_
               rintro e w1 ⟨rfl, rfl⟩
               clear KP
               go_wp2_with fail
               try rw [Exit.noGoto_ret]
               go_ret3
               exact ⟨.slice none 0 0, [], rfl, OwnT.nil _ _ _, rfl, HB.out⟩
           · have e : R = none := by rw [<- HQ.out]; exact qgo_no hpz HG1.out (by rw [HCC.out, HL.out]; intro h; exact hok ⟨by have := h.2.1; omega, h.2.2⟩)
             subst e
             have KP : Hid (∀ W, Below w.heap.size w W -> Calls Tryz.prog 128 #[.slice (some ⟨b, o, none⟩) len cap, .int .i64 p] W fun e w' => e = .returned (.tuple #[.int .i64 0, .bool false]) /\ w' = W) := fun W hW => by
               by_cases h2 : p + 2 <= len
               · exact pointed_low _ len cap p zs W (HR.out.below hW) HL.out hc hc2 h2 (by rw [HCC.out]; omega)
               · exact pointed_no _ len cap p W hc hc2 (by omega)
             clear HQ HR HG0 HG1 HCC hcc hbd
             go_wp2_with fail
             refine (KP.out _ HB.out).mono ?_
             rintro e w1 ⟨rfl, rfl⟩
             clear KP
             go_wp2_with fail
             try rw [Exit.noGoto_ret]
             go_ret3
             exact ⟨.slice none 0 0, [], rfl, OwnT.nil _ _ _, rfl, HB.out⟩
   · have hge : (len : Int) <= (p : Int) := by omega
     have e : R = none := by rw [<- HQ.out]; exact qgo_out (by rw [HL.out]; exact hpl)
     subst e
     clear HQ
     go_wp2_with fail
     try rw [Exit.noGoto_ret]
     go_ret3
     exact ⟨.slice none 0 0, [], rfl, OwnT.nil _ _ _, rfl, HB.out⟩
end Go.Proofs.YtkjnbgekaifdfaaGreat
namespace Go.Proofs.YtkjnbgekaifdfaaGreat
open Go.ChangeShapes Go.WideShapes Go.ChangeAt Go.RowKit Go.Maps
theorem law9 : Keyed Tryz.prog 9 := string_keyed Tryz.underlying9
theorem zero3 (w : World) : (zeroValue 3).run Tryz.prog w = .ok (.int .i64 0) w := by kernel_rfl
theorem str_inj {a b : ByteArray} (h : (Lit.string a.data.toList) = Lit.string b.data.toList) : a = b := by
 injection h with h
 cases a with | mk x => cases b with | mk y => simp at h; rw [h]
def PlM (w : World) (b : Nat) (pl : List (ByteArray × Nat)) : Prop := ∃ M : DataW Unit, w.ownsMap Tryz.prog 9 (plainElem Tryz.prog 3) b pl.length M /\
 ∀ s : ByteArray, (qfind pl s = none -> has M (.string s.data.toList) = false) /\ (∀ p, qfind pl s = some p -> has M (.string s.data.toList) = true /\ M.atKey (.string s.data.toList) (.lit (.int .i64 0)) = .lit (.int .i64 (p : Int)))
theorem PlM.same {w w' : World} {b : Nat} {pl : List (ByteArray × Nat)} (h : PlM w b pl) (hb : w'.heap[b]? = w.heap[b]?) : PlM w' b pl := by
 obtain ⟨M, h1, h2⟩ := h
 refine ⟨M, ?_, h2⟩
 obtain ⟨es, clock, h3, h4⟩ := h1
 exact ⟨es, clock, hb.trans h3, h4⟩
theorem PlM.isMap {w : World} {b : Nat} {pl : List (ByteArray × Nat)} (h : PlM w b pl) : ∃ es clock, w.heap[b]? = some (.map es clock) := by
 obtain ⟨M, ⟨es, clock, h3, _⟩, _⟩ := h
 exact ⟨es, clock, h3⟩
theorem PlM.made (w : World) : PlM (w.alloc (.map #[] 0)) w.heap.size [] := ⟨.map [], World.ownsMap_made _ _ _ _, fun s => ⟨fun _ => by simp [has], fun p h => by simp [qfind] at h⟩⟩
theorem PlM.put {w' : World} {b : Nat} {pl : List (ByteArray × Nat)} {M : DataW Unit} (s : ByteArray) (p : Nat) (hM : IsMap M) (hf : qfind pl s = none)
   (h2 : ∀ s : ByteArray, (qfind pl s = none -> has M (.string s.data.toList) = false) /\ (∀ p, qfind pl s = some p -> has M (.string s.data.toList) = true /\ M.atKey (.string s.data.toList) (.lit (.int .i64 0)) = .lit (.int .i64 (p : Int))))
   (h3 : w'.ownsMap Tryz.prog 9 (plainElem Tryz.prog 3) b (pl.length + 1) (M.put (.string s.data.toList) (.lit (.int .i64 (p : Int))))) : PlM w' b ((s, p) :: pl) := by
 refine ⟨_, h3, fun r => ?_⟩
 by_cases e : r = s
 · subst e
   have hk : WideAt.IsKeyLit (Lit.string r.data.toList) := by simp [WideAt.IsKeyLit]
   refine ⟨fun h => by simp [qfind] at h, fun q h => ?_⟩
   simp [qfind] at h
   subst h
   exact ⟨has_put_same hM hk _, atKey_put_same hM hk _ _⟩
 · have hne : (Lit.string r.data.toList) ≠ Lit.string s.data.toList := fun h => e (str_inj h)
   rw [has_put_other hne, atKey_put_other hne]
   have : qfind ((s, p) :: pl) r = qfind pl r := by simp [qfind, Ne.symm e]
   rw [this]
   exact h2 r
structure Fr (B : Nat) (w w' : World) : Prop where
 below : Below B w w'
 oth : ∀ (j : Nat) (cs : Array Value) (t : TypeId) (fr : Nat × Nat), w.heap[j]? = some (Obj.cells cs t fr) -> t ≠ 5 -> t ≠ 125 -> w'.heap[j]? = w.heap[j]?
theorem Fr.refl (B : Nat) (w : World) : Fr B w w := ⟨Below.refl _ _, fun _ _ _ _ _ _ _ => rfl⟩
theorem Fr.trans {B : Nat} {a b c : World} (h : Fr B a b) (k : Fr B b c) : Fr B a c :=
 ⟨h.below.trans k.below, fun j cs t fr hj h5 h50 => by
   have e := h.oth j cs t fr hj h5 h50
   exact (k.oth j cs t fr (e.trans hj) h5 h50).trans e⟩
theorem Fr.of {B : Nat} {w w' : World} (h : Below w.heap.size w w') (hB : B <= w.heap.size) : Fr B w w' :=
 ⟨h.mono hB, fun j cs t fr hj _ _ => h.block j (Array.getElem?_eq_some_iff.1 hj).1⟩
structure Wr1 (B : Nat) (w : World) (g : Nat) (tx : List Int) (pl : List (ByteArray × Nat)) (v : Value) (ys : List Int) (mb : Nat) : Prop where
 box : w.heap[g]? = some (.cells #[.pointer (some ⟨g, 0, none⟩), v, .map (some mb)] 125)
 gB : B <= g
 mB : B <= mb
 own : Own B w v tx.length ys
 txt : ys.take tx.length = tx
 map : PlM w mb pl
def Wr (B : Nat) (w : World) (g : Nat) (tx : List Int) (pl : List (ByteArray × Nat)) : Prop := ∃ v ys mb, Wr1 B w g tx pl v ys mb
theorem Own.keepAt {B : Nat} {w w' : World} {v : Value} {n : Nat} {zs : List Int} (h : Own B w v n zs) (hb : ∀ g, v.ownBlock = some g -> g < w.heap.size -> w'.heap[g]? = w.heap[g]?) : Own B w' v n zs := by
 rcases h with h | ⟨g, h1, h2, h3, h4⟩
 · exact .inl h
 · exact .inr ⟨g, h1, h2, h3.same (hb g (by rw [h1]; rfl) h3.lt), h4⟩
theorem Wr1.below {B : Nat} {w w' : World} {g : Nat} {tx : List Int} {pl : List (ByteArray × Nat)} {v : Value} {ys : List Int} {mb : Nat} (h : Wr1 B w g tx pl v ys mb) (hb : Below w.heap.size w w') : Wr1 B w' g tx pl v ys mb :=
 ⟨(hb.block g (Array.getElem?_eq_some_iff.1 h.box).1).trans h.box, h.gB, h.mB, h.own.below hb, h.txt, h.map.same (hb.block mb (by obtain ⟨es, c, e⟩ := h.map.isMap; exact (Array.getElem?_eq_some_iff.1 e).1))⟩
theorem Wr.below {B : Nat} {w w' : World} {g : Nat} {tx : List Int} {pl : List (ByteArray × Nat)} (h : Wr B w g tx pl) (hb : Below w.heap.size w w') : Wr B w' g tx pl := by
 obtain ⟨v, ys, mb, h⟩ := h
 exact ⟨v, ys, mb, h.below hb⟩
theorem Blk.type {w : World} {g : Nat} {zs : List Int} (h : Blk w g zs) : ∃ cs, w.heap[g]? = some (.cells cs 5 (0, 0)) := ⟨_, h.1⟩
theorem Wr.row {B : Nat} {w w' : World} {g : Nat} {tx : List Int} {pl : List (ByteArray × Nat)} (h : Wr B w g tx pl) {o : Option Nat} (hg : w.grownBy w' o) (ho : ∀ j, o = some j -> ∃ (cs : Array Value) (t : TypeId) (fr : Nat × Nat), w.heap[j]? = some (Obj.cells cs t fr) /\ t ≠ 5 /\ t ≠ 125) : Wr B w' g tx pl := by
 obtain ⟨v, ys, mb, h⟩ := h
 refine ⟨v, ys, mb, ?_, h.gB, h.mB, ?_, h.txt, ?_⟩
 · refine (hg.block g (Array.getElem?_eq_some_iff.1 h.box).1 (fun e => ?_)).trans h.box
   obtain ⟨cs, t, fr, e1, e2, e3⟩ := ho g e.symm
   rw [h.box] at e1; cases e1; exact e3 rfl
 · refine h.own.keepAt (fun k hk hl => hg.block k hl (fun e => ?_))
   obtain ⟨cs, t, fr, e1, e2, e3⟩ := ho k e.symm
   rcases h.own with ⟨rfl, _⟩ | ⟨k', rfl, _, hbl, _⟩
   · cases hk
   · obtain rfl : k' = k := Option.some.inj hk
     obtain ⟨cs', e4⟩ := hbl.type
     rw [e4] at e1; cases e1; exact e2 rfl
 · obtain ⟨es, c, e4⟩ := h.map.isMap
   refine h.map.same (hg.block mb (Array.getElem?_eq_some_iff.1 e4).1 (fun e => ?_))
   obtain ⟨cs, t, fr, e1, _⟩ := ho mb e.symm
   rw [e4] at e1; cases e1
theorem eql_ptr_same (a : Addr) (w : World) : (binOp .eql 91 (.pointer (some a)) (.pointer (some a))).run Tryz.prog w = .ok (.bool true) w := by
 obtain ⟨j, hi⟩ : ∃ j, Tryz.prog.info? 125 = some j := Option.isSome_iff_exists.1 (by kernel_rfl)
 have h : ∀ d : Nat, (Op.equalIn (d + 1) 91 (.pointer (some a)) (.pointer (some a))).run Tryz.prog w = .ok true w := fun d => by
   simp [Op.equalIn, run_underlying Tryz.underlying91, sizeOf, typeInfo, hi, run_sameAddr_same]
 simp only [binOp]
 simp [Op.equal, Op.maxDepth, h 9999]
theorem neq_ptr_nil (a : Addr) (w : World) : (binOp .neq 91 (.pointer (some a)) (.pointer none)).run Tryz.prog w = .ok (.bool true) w := by
 have h : ∀ d : Nat, (Op.equalIn (d + 1) 91 (.pointer (some a)) (.pointer none)).run Tryz.prog w = .ok false w := fun d => by
   simp [Op.equalIn, run_underlying Tryz.underlying91]
 simp only [binOp]
 simp [Op.equal, Op.maxDepth, h 9999]
theorem box_cell {w : World} {g : Nat} {cs : Array Value} {t : TypeId} (h : w.heap[g]? = some (.cells cs t)) (k : Nat) (v : Value) (hk : cs[k]? = some v) : w.cell? ⟨g, k, none⟩ = some v := by
 simp [World.cell?, h, hk]
theorem box_frozen {w : World} {g : Nat} {cs : Array Value} {t : TypeId} (h : w.heap[g]? = some (.cells cs t)) (k : Nat) : w.frozen? ⟨g, k, none⟩ = false := by
 simp [World.frozen?, h]
theorem box_lt {w : World} {g : Nat} {o : Obj} (h : w.heap[g]? = some o) : g < w.heap.size := (Array.getElem?_eq_some_iff.1 h).1
theorem box_set {w : World} {g : Nat} {cs : Array Value} {t : TypeId} (h : w.heap[g]? = some (.cells cs t)) (k : Nat) (v : Value) : (w.setCell ⟨g, k, none⟩ v).heap[g]? = some (.cells (cs.setIfInBounds k v) t) := heap_set h k v
theorem made_yes (g : Nat) (w : World) (h : w.cell? ⟨g, 0, none⟩ = some (.pointer (some ⟨g, 0, none⟩))) (hg : g < w.heap.size) :
   Calls Tryz.prog 86 #[.pointer (some ⟨g, 0, none⟩)] w fun e w' => e = .returned (.bool true) /\ w' = w := by
 have h1 := eql_ptr_same ⟨g, 0, none⟩
 have h2 := neq_ptr_nil ⟨g, 0, none⟩
 go_enter Tryz.func86, Tryz.ntmps86
 go_wp2
 go_ret
 exact ⟨rfl, rfl⟩
theorem len_any (B g : Nat) (tx : List Int) (pl : List (ByteArray × Nat)) (w : World) (h : Wr B w g tx pl) :
   Calls Tryz.prog 83 #[.pointer (some ⟨g, 0, none⟩)] w fun e w' => e = .returned (.int .i64 tx.length) /\ w' = w := by
 obtain ⟨v, ys, mb, h⟩ := h
 have hg := box_lt h.box
 have c0 := box_cell h.box 0 _ rfl
 have c1 := box_cell h.box 1 _ rfl
 obtain ⟨ao, rfl, _⟩ := h.own.addr
 generalize tx.length = n at *
 have KM := Lib.hid (made_yes g w c0 hg)
 go_enter Tryz.func83, Tryz.ntmps83
 go_wp2_with fail
 refine KM.out.mono ?_
 rintro e w1 ⟨rfl, rfl⟩
 go_wp2
 go_ret
 exact ⟨rfl, rfl⟩
set_option maxHeartbeats 1000000 in
theorem all_any (B g : Nat) (tx : List Int) (pl : List (ByteArray × Nat)) (w : World) (h : Wr B w g tx pl) (ht : tx.length <= 100000) :
   Calls Tryz.prog 56 #[.pointer (some ⟨g, 0, none⟩)] w fun e w' => ∃ v ys, e = .returned v /\ Hid (Own w.heap.size w' v tx.length ys /\ ys.take tx.length = tx /\ Below w.heap.size w w') := by
 obtain ⟨v, ys, mb, h⟩ := h
 have hg := box_lt h.box
 have c0 := box_cell h.box 0 _ rfl
 have c1 := box_cell h.box 1 _ rfl
 obtain ⟨ao, rfl, hA⟩ := h.own.addr
 have HR : Hid (Rd w ao tx) := by have := hA.rdTake tx.length; rw [h.txt] at this; exact this
 have HN : Hid (ao = none -> tx.length = 0 /\ ys.length = 0) := fun e => by have := hA.nil e; have := hA.le; omega
 obtain ⟨n, hn⟩ : ∃ n, tx.length = n := ⟨_, rfl⟩
 have KM := Lib.hid (made_yes g w c0 hg)
 have KC : Hid (Calls Tryz.prog 87 #[.slice ao n ys.length] w fun e w' => ∃ v ys, e = .returned v /\ Hid (Own w.heap.size w' v n ys /\ ys.take n = tx /\ Below w.heap.size w w')) := by
   cases ao with
   | none =>
     obtain ⟨e1, e2⟩ := HN.out rfl
     rw [e2, <- hn, e1]
     refine (clone_none w).mono ?_
     rintro e w' ⟨rfl, rfl⟩
     exact ⟨_, [], rfl, .inl ⟨rfl, rfl, rfl⟩, (List.eq_nil_of_length_eq_zero e1).symm ▸ rfl, Below.refl _ _⟩
   | some x =>
     rw [<- hn]
     refine (clone_any x _ tx w HR.out (by omega)).mono ?_
     rintro e w' ⟨v, zs, rfl, h1, h2, h3⟩
     exact ⟨v, zs, rfl, h1, h2, h3⟩
 rw [hn] at c1 ⊢
 generalize ys.length = C at *
 clear h hA HN HR
 go_enter Tryz.func56, Tryz.ntmps56
 go_wp2_with fail
 refine KM.out.mono ?_
 rintro e w1 ⟨rfl, rfl⟩
 go_wp2_with fail
 refine KC.out.mono ?_
 rintro e w2 ⟨v, zs, rfl, H2⟩
 go_wp2
 go_ret
 exact ⟨v, zs, rfl, H2⟩
end Go.Proofs.YtkjnbgekaifdfaaGreat
namespace Go.Proofs.YtkjnbgekaifdfaaGreat
open Go.ChangeShapes Go.WideShapes Go.ChangeAt Go.RowKit
structure Hd where
 id : Nat
 rs : Bool
 op : Int
 aa : Bool
 tc : Bool
 rd : Bool
 ra : Bool
 ad : Bool
 cd : Bool
 rc : Int
structure MA where
 q : Sl
 l1 : Sl
 l2 : Sl
 l3 : Sl
def thrown : List PanicEntry := [{ v := .iface 66 (.agg #[]), recovered := false }]
theorem need_yes (w : World) : Calls Tryz.prog 60 #[.bool true] w fun e w' => e = .returned (.tuple #[]) /\ w' = w := by
 go_enter Tryz.func60, Tryz.ntmps60
 go_wp2
 go_end0
 exact ⟨rfl, rfl⟩
theorem need_no (w : World) : Calls Tryz.prog 60 #[.bool false] w fun e w' => e = .panicked thrown /\ w' = w := by
 go_enter Tryz.func60, Tryz.ntmps60
 go_wp2
 exact ⟨rfl, rfl, rfl⟩
theorem namesin_any (t : Nat) (w : World) : Calls Tryz.prog 108 #[.int .u16 t] w fun e w' => e = .returned (.tuple #[.int .i64 (ahd t), .int .i64 (cnt t)]) /\ w' = w := by
 have key : (t = 2 ∨ t = 5 ∨ t = 12) ∨ t = 6 ∨ t = 15 ∨ t = 33 ∨ (((t : Int) == 2) = false /\ ((t : Int) == 5) = false /\ ((t : Int) == 12) = false /\ ((t : Int) == 6) = false /\ ((t : Int) == 15) = false /\ ((t : Int) == 33) = false /\ ahd t = 0 /\ cnt t = 0) := by
   by_cases h : t = 2 ∨ t = 5 ∨ t = 12 ∨ t = 6 ∨ t = 15 ∨ t = 33
   · omega
   · refine .inr (.inr (.inr (.inr ?_)))
     simp only [ahd, cnt, beq_eq_false_iff_ne]
     refine ⟨by omega, by omega, by omega, by omega, by omega, by omega, by rw [if_neg (by omega), if_neg (by omega)], by rw [if_neg (by omega), if_neg (by omega)]⟩
 rcases key with (rfl | rfl | rfl) | rfl | rfl | rfl | ⟨h1, h2, h3, h4, h5, h6, e1, e2⟩
 case inr.inr.inr.inr =>
   rw [e1, e2]
   clear e1 e2
   go_enter Tryz.func108, Tryz.ntmps108
   go_wp2
   go_ret2
   exact ⟨rfl, rfl⟩
 all_goals
   go_enter Tryz.func108, Tryz.ntmps108
   go_wp2
   go_ret2
   exact ⟨rfl, rfl⟩
theorem squeezed_any (t : Nat) (w : World) : Calls Tryz.prog 109 #[.int .u16 t] w fun e w' => e = .returned (.bool (sqt t)) /\ w' = w := by
 have key : (t = 2 ∨ t = 5 ∨ t = 6 ∨ t = 12 ∨ t = 15) ∨ (((t : Int) == 2) = false /\ ((t : Int) == 5) = false /\ ((t : Int) == 6) = false /\ ((t : Int) == 12) = false /\ ((t : Int) == 15) = false /\ sqt t = false) := by
   by_cases h : t = 2 ∨ t = 5 ∨ t = 6 ∨ t = 12 ∨ t = 15
   · exact .inl h
   · refine .inr ?_
     simp only [sqt, beq_eq_false_iff_ne, decide_eq_false_iff_not]
     omega
 rcases key with (rfl | rfl | rfl | rfl | rfl) | ⟨h1, h2, h3, h4, h5, e1⟩
 case inr =>
   rw [e1]
   clear e1
   go_enter Tryz.func109, Tryz.ntmps109
   go_wp2
   go_ret
   exact ⟨rfl, rfl⟩
 all_goals
   go_enter Tryz.func109, Tryz.ntmps109
   go_wp2
   go_ret
   exact ⟨rfl, rfl⟩
theorem sections_any (b : Nat) (w : World) : Calls Tryz.prog 43 #[.pointer (some ⟨b, 0, none⟩)] w fun e w' => e = .returned (.agg #[.pointer (some ⟨b, 11, none⟩), .pointer (some ⟨b, 12, none⟩), .pointer (some ⟨b, 13, none⟩)]) /\ Hid (Below w.heap.size w w') := by
 go_enter Tryz.func43, Tryz.ntmps43
 go_wp2
 go_region
 go_wp2
 refine bodyPost_ret (v := .agg #[.pointer (some ⟨b, 11, none⟩), .pointer (some ⟨b, 12, none⟩), .pointer (some ⟨b, 13, none⟩)]) ?_ rfl ⟨rfl, ?_⟩
 · simp [results, Tryz.results43, go_sem]
 exact ((Below.refl _ _).alloc (Nat.le_refl _) _).drew
theorem ixS0 (b : Nat) (w : World) : (Instr.index 77 (.agg #[.pointer (some ⟨b, 11, none⟩), .pointer (some ⟨b, 12, none⟩), .pointer (some ⟨b, 13, none⟩)]) (.int .i64 0)).run Tryz.prog w = .ok (.pointer (some ⟨b, 11, none⟩)) w := by kernel_rfl
theorem ixS1 (b : Nat) (w : World) : (Instr.index 77 (.agg #[.pointer (some ⟨b, 11, none⟩), .pointer (some ⟨b, 12, none⟩), .pointer (some ⟨b, 13, none⟩)]) (.int .i64 1)).run Tryz.prog w = .ok (.pointer (some ⟨b, 12, none⟩)) w := by kernel_rfl
theorem ixS2 (b : Nat) (w : World) : (Instr.index 77 (.agg #[.pointer (some ⟨b, 11, none⟩), .pointer (some ⟨b, 12, none⟩), .pointer (some ⟨b, 13, none⟩)]) (.int .i64 2)).run Tryz.prog w = .ok (.pointer (some ⟨b, 13, none⟩)) w := by kernel_rfl
theorem ixS (b k : Nat) (hk : k < 3) (w : World) : (Instr.index 77 (.agg #[.pointer (some ⟨b, 11, none⟩), .pointer (some ⟨b, 12, none⟩), .pointer (some ⟨b, 13, none⟩)]) (.int .i64 (k : Int))).run Tryz.prog w = .ok (.pointer (some ⟨b, 11 + k, none⟩)) w := by
 have : k = 0 ∨ k = 1 ∨ k = 2 := by omega
 rcases this with rfl | rfl | rfl
 · exact ixS0 b w
 · exact ixS1 b w
 · exact ixS2 b w
theorem mbox_new (H : Hd) (x : MA) (w : World) : (w.alloc (.cells #[.int .u16 H.id, .bool H.rs, .int .i64 H.op, .bool H.aa, .bool H.tc, .bool H.rd, .bool H.ra, .bool H.ad, .bool H.cd, .int .i64 H.rc, .slice x.q.a x.q.n x.q.c, .slice x.l1.a x.l1.n x.l1.c, .slice x.l2.a x.l2.n x.l2.c, .slice x.l3.a x.l3.n x.l3.c] 26)).heap[w.heap.size]? = some (.cells #[.int .u16 H.id, .bool H.rs, .int .i64 H.op, .bool H.aa, .bool H.tc, .bool H.rd, .bool H.ra, .bool H.ad, .bool H.cd, .int .i64 H.rc, .slice x.q.a x.q.n x.q.c, .slice x.l1.a x.l1.n x.l1.c, .slice x.l2.a x.l2.n x.l2.c, .slice x.l3.a x.l3.n x.l3.c] 26) := heap_alloc_new _ _
def nth3 (x : MA) (k : Nat) : Sl := if k = 0 then x.l1 else if k = 1 then x.l2 else x.l3
theorem mbox_list {H : Hd} {x : MA} {w : World} {b : Nat} (h : w.heap[b]? = some (.cells #[.int .u16 H.id, .bool H.rs, .int .i64 H.op, .bool H.aa, .bool H.tc, .bool H.rd, .bool H.ra, .bool H.ad, .bool H.cd, .int .i64 H.rc, .slice x.q.a x.q.n x.q.c, .slice x.l1.a x.l1.n x.l1.c, .slice x.l2.a x.l2.n x.l2.c, .slice x.l3.a x.l3.n x.l3.c] 26)) (k : Nat) (hk : k < 3) : w.cell? ⟨b, 11 + k, none⟩ = some (.slice (nth3 x k).a (nth3 x k).n (nth3 x k).c) := by
 have : k = 0 ∨ k = 1 ∨ k = 2 := by omega
 rcases this with rfl | rfl | rfl <;> simp [World.cell?, h, nth3]
def sum3 (x : MA) (k : Nat) : Nat := (if 0 < k then x.l1.n else 0) + (if 1 < k then x.l2.n else 0) + (if 2 < k then x.l3.n else 0)
theorem sum3_step (x : MA) (k : Nat) (hk : k < 3) : sum3 x (k + 1) = sum3 x k + (nth3 x k).n := by
 have : k = 0 ∨ k = 1 ∨ k = 2 := by omega
 rcases this with rfl | rfl | rfl <;> simp [sum3, nth3]
theorem sum3_le (x : MA) (k : Nat) : sum3 x k <= x.l1.n + x.l2.n + x.l3.n := by
 unfold sum3
 split <;> split <;> split <;> omega
set_option maxHeartbeats 1000000 in
theorem total_any (H : Hd) (x : MA) (w : World) (hs : x.l1.n + x.l2.n + x.l3.n <= 1000000000) : Calls Tryz.prog 30 #[.agg #[.int .u16 H.id, .bool H.rs, .int .i64 H.op, .bool H.aa, .bool H.tc, .bool H.rd, .bool H.ra, .bool H.ad, .bool H.cd, .int .i64 H.rc, .slice x.q.a x.q.n x.q.c, .slice x.l1.a x.l1.n x.l1.c, .slice x.l2.a x.l2.n x.l2.c, .slice x.l3.a x.l3.n x.l3.c]] w fun e w' => e = .returned (.int .i64 ((x.l1.n + x.l2.n + x.l3.n : Nat) : Int)) /\ Hid (Below w.heap.size w w') := by
 have KS := Lib.hid (sections_any w.heap.size (w.alloc (.cells #[.int .u16 H.id, .bool H.rs, .int .i64 H.op, .bool H.aa, .bool H.tc, .bool H.rd, .bool H.ra, .bool H.ad, .bool H.cd, .int .i64 H.rc, .slice x.q.a x.q.n x.q.c, .slice x.l1.a x.l1.n x.l1.c, .slice x.l2.a x.l2.n x.l2.c, .slice x.l3.a x.l3.n x.l3.c] 26)))
 go_enter Tryz.func30, Tryz.ntmps30
 go_wp2_with fail
 refine KS.out.mono ?_
 rintro e w1 ⟨rfl, H1⟩
 have HB : Hid (w1.heap[w.heap.size]? = some (.cells #[.int .u16 H.id, .bool H.rs, .int .i64 H.op, .bool H.aa, .bool H.tc, .bool H.rd, .bool H.ra, .bool H.ad, .bool H.cd, .int .i64 H.rc, .slice x.q.a x.q.n x.q.c, .slice x.l1.a x.l1.n x.l1.c, .slice x.l2.a x.l2.n x.l2.c, .slice x.l3.a x.l3.n x.l3.c] 26)) := (H1.out.block _ (by simp)).trans (mbox_new H x w)
 have hlt : w.heap.size < w1.heap.size := box_lt HB.out
 have HB1 : Hid (Below w.heap.size w w1) := ((Below.refl _ w).alloc (Nat.le_refl _) _).trans (H1.out.mono (by simp))
 clear H1 KS
 go_wp2_with fail
 go_loopw [3, 7] (fun y z wr => ∃ k : Nat, k <= 3 /\ y = .int .i64 (sum3 x k : Nat) /\ z = .int .i64 k /\ wr = w1) (fun _ z _ => 3 - (intOf z).toNat)
 case atStart => exact ⟨0, by omega, rfl, rfl, rfl⟩
 case round =>
   obtain ⟨k, hk, rfl, rfl, rfl⟩ := hrel
   by_cases hlt3 : k < 3
   · have h3 : (k : Int) < 3 := by omega
     have hix := ixS w.heap.size k hlt3
     have hc := mbox_list HB.out k hlt3
     have hst := sum3_step x k hlt3
     have hle := sum3_le x (k + 1)
     have HST : Hid (sum3 x (k + 1) = sum3 x k + (nth3 x k).n) := hst
     have hle2 : sum3 x k + (nth3 x k).n <= 1000000000 := by omega
     clear hst hle
     generalize nth3 x k = s at *
     generalize sum3 x k = S at *
     go_wp2
     exact ⟨⟨k + 1, by omega, by rw [HST.out]; go_num, by go_num, trivial⟩, by simp [intOf]; omega⟩
   · obtain rfl : k = 3 := by omega
     go_wp2
     go_ret
     exact ⟨by simp [sum3], HB1.out⟩
end Go.Proofs.YtkjnbgekaifdfaaGreat
namespace Go.Proofs.YtkjnbgekaifdfaaGreat
open Go.ChangeShapes Go.WideShapes Go.ChangeAt Go.RowKit
theorem new_b (w : World) (zs : List Int) (n : Nat) (hn : zs.length = n) (hm : n <= 1000) (hb : ∀ z ∈ zs, 0 <= z /\ z <= 255) : BRd (w.alloc (.cells (zs.map (Value.int .u8)).toArray 5)) ⟨some ⟨w.heap.size, 0, none⟩, n, n⟩ zs := by
 refine ⟨⟨?_, hb⟩, hn, ⟨Nat.le_refl _, by simp only; omega⟩, by simp⟩
 have hblk : Blk (w.alloc (.cells (zs.map (Value.int .u8)).toArray 5)) w.heap.size zs := ⟨heap_alloc_new _ _, hb⟩
 exact .inr ⟨w.heap.size, 0, rfl, hblk.lt, fun i hi => by rw [Nat.zero_add]; exact hblk.cell i hi⟩
end Go.Proofs.YtkjnbgekaifdfaaGreat
namespace Go.Proofs.YtkjnbgekaifdfaaGreat
open Go.ChangeShapes Go.WideShapes Go.ChangeAt Go.RowKit
theorem wlen {t : Nat} {d : Dat} (hck : checkF t d = 0) : (writeF t d).length <= 65535 := by
 obtain ⟨hm, hf, hnk, hsz⟩ := check_parts hck
 have hwr := wrt_of hck
 obtain ⟨hq1, hq2, hq3, hq4, hq5, hq6⟩ := wr_eq t d hf
 rw [<- hq6]
 have h1 := hwr.sz
 rw [hq1, <- hq4] at h1
 have h2 : (ptB (d.ts.length - (fs t).tl) d.ts).length = (tsB t d.ts).length := by
   have e1 := congrArg List.length hq6
   unfold writeF at e1
   by_cases h6 : t = 6
   · obtain ⟨_, e2, e3⟩ := hwr.soa h6
     rw [e2]; simp [ptB, tsB, nby]
   · rw [if_neg h6, hq1, hq4] at e1
     simp only [List.length_append] at e1
     omega
 simp only [List.length_append] at h1 ⊢
 omega
end Go.Proofs.YtkjnbgekaifdfaaGreat
namespace Go.Proofs.YtkjnbgekaifdfaaGreat
open Go.ChangeShapes Go.WideShapes Go.ChangeAt Go.RowKit
theorem names_plain : ∀ (ns : List (List ByteArray)) (pl : PLs) (k : Nat), (pls (ns.map fun n => pnm n false) pl k).1 = ns.flatMap nmB
 | [], pl, k => rfl
 | n :: r, pl, k => by
   have ih := names_plain r
   simp only [List.map_cons, pls, psq, List.flatMap_cons, ih, pnm, nmB, Bool.false_eq_true, if_false, qshort_nil]
theorem flat_nmB_len : ∀ ns : List (List ByteArray), (ns.flatMap nmB).length = (ns.map nsz).sum
 | [] => rfl
 | n :: r => by simp only [List.flatMap_cons, List.length_append, nmB_len, flat_nmB_len r, List.map_cons, List.sum_cons]
theorem nums_len2 {us : List Nat} {wd : Nat} (h : wd = 1 ∨ wd = 2 ∨ wd = 4) : (us.flatMap fun n => numB n wd).length = us.length * wd := by
 induction us with
 | nil => simp
 | cons u r ih => simp only [List.flatMap_cons, List.length_append, numB_len u wd h, ih, List.length_cons, Nat.succ_mul]; omega
theorem wr_split {t : Nat} {d : Dat} (h : checkF t d = 0) : (writeF t d).take (ahd t) ++ (d.ns.flatMap nmB ++ (writeF t d).drop (ahd t + dns d)) = writeF t d /\ ahd t + dns d <= (writeF t d).length /\ (sqt t = true -> cnt t = d.ns.length) := by
 obtain ⟨_, hf, _, _⟩ := check_parts h
 have F := (fit_iff t d).1 hf
 have hN := flat_nmB_len d.ns
 have e0 : ∀ (A B C : List Int) (k m : Nat), A.length = k -> B.length = m -> (A ++ (B ++ C)).take k ++ (B ++ (A ++ (B ++ C)).drop (k + m)) = A ++ (B ++ C) /\ k + m <= (A ++ (B ++ C)).length := by
   intro A B C k m hA hB
   subst hA hB
   refine ⟨?_, by simp⟩
   rw [List.take_left, <- List.append_assoc A B C, show A.length + B.length = (A ++ B).length by simp, List.drop_left, List.append_assoc]
 have key : ∃ A C, A.length = ahd t /\ writeF t d = A ++ (d.ns.flatMap nmB ++ C) := by
   unfold writeF ahd
   have hc := shp_cases t
   by_cases h6 : t = 6
   · subst h6
     exact ⟨[], d.us.flatMap (fun n => numB n 4), rfl, by simp⟩
   · rw [if_neg h6]
     by_cases h15 : t = 15
     · subst h15
       have : d.us.length = 1 := F.us
       exact ⟨d.us.flatMap (fun n => numB n (shp 15).wd), tsB 15 d.ts ++ d.raw, by rw [nums_len2 (by decide), this]; decide, by simp⟩
     · by_cases h33 : t = 33
       · subst h33
         have : d.us.length = 3 := F.us
         exact ⟨d.us.flatMap (fun n => numB n (shp 33).wd), tsB 33 d.ts ++ d.raw, by rw [nums_len2 (by decide), this]; decide, by simp⟩
       · rw [if_neg h15, if_neg h33]
         by_cases hn : d.ns = []
         · exact ⟨[], d.us.flatMap (fun n => numB n (shp t).wd) ++ (tsB t d.ts ++ d.raw), rfl, by rw [hn]; simp⟩
         · have hl : d.ns.length ≠ 0 := fun e => hn (List.eq_nil_of_length_eq_zero e)
           rw [F.ns] at hl
           have hu : d.us.length = 0 := by
             rw [F.us]
             rcases hc with ⟨_, e⟩ | ⟨_, e⟩ | ⟨_, e⟩ | ⟨e, _⟩ | ⟨e, _⟩ | ⟨e, _⟩ | ⟨_, e⟩ | ⟨_, e⟩ | ⟨_, e⟩
             all_goals first | (rw [e]; done) | (rw [e] at hl; exact absurd rfl hl) | (exact absurd e (by assumption))
           have : d.us = [] := List.eq_nil_of_length_eq_zero hu
           exact ⟨[], tsB t d.ts ++ d.raw, rfl, by rw [this]; simp⟩
 obtain ⟨A, C, hA, hw⟩ := key
 obtain ⟨h1, h2⟩ := e0 A (d.ns.flatMap nmB) C (ahd t) (dns d) hA hN
 rw [hw]
 refine ⟨h1, h2, fun hs => ?_⟩
 rw [F.ns]
 unfold sqt at hs
 have := of_decide_eq_true hs
 rcases this with rfl | rfl | rfl | rfl | rfl <;> rfl
theorem bak_names (ns : List (List ByteArray)) (back : Bool) (h : ∀ n ∈ ns, nck n = 0) : Bak (pls (ns.map fun n => pnm n back)) (fun zs => gmany (gnm zs) ns.length) ns := by
 have := bak_many (r := gnm) (ns.map fun n => (pnm n back, n)) (by
   intro x hx
   obtain ⟨n, hn, rfl⟩ := List.mem_map.1 hx
   exact ⟨bak_nm n back (h n hn), kps_nm n back (h n hn)⟩)
 simpa [List.map_map, Function.comp_def] using this
theorem take_mid (A B C : List Int) (k m : Nat) (hA : A.length = k) (hB : B.length = m) : ((A ++ (B ++ C)).drop k).take m = B := by
 subst hA hB
 rw [List.drop_left, List.take_left]
theorem dat_bytes {t : Nat} {d : Dat} (h : checkF t d = 0) (hs : sqt t = false) (pl : PLs) (k : Nat) : (pdat t d pl k).1 = writeF t d := by
 simp only [pdat, psq, pby, hs]
 rw [names_plain]
 exact (wr_split h).1
theorem gpl_back {t : Nat} {d : Dat} (h : checkF t d = 0) (tx : List Int) (pl : PLs) (R : List Int) (hI : QInv tx pl) (hl : tx.length + (pdat t d pl tx.length).1.length <= 65535) :
   gpl t (tx ++ ((pdat t d pl tx.length).1 ++ R)) tx.length (tx.length + (pdat t d pl tx.length).1.length) = some (writeF t d) := by
 unfold gpl
 cases hs : sqt t with
 | false =>
   rw [if_neg (by simp), dat_bytes h hs, Nat.add_sub_cancel_left, List.drop_left, List.take_left]
 | true =>
   rw [if_pos rfl]
   obtain ⟨h1, h2, h3⟩ := wr_split h
   have hA : ((writeF t d).take (ahd t)).length = ahd t := by rw [List.length_take]; omega
   rw [h3 hs]
   generalize hAA : (writeF t d).take (ahd t) = A at *
   generalize hCC : (writeF t d).drop (ahd t + dns d) = C at *
   have hb := bak_names d.ns true (check_parts h).2.2.1 (tx ++ A) pl (C ++ R) hI.more
   have e : (pdat t d pl tx.length).1 = A ++ ((pls (d.ns.map fun n => pnm n true) pl (tx.length + A.length)).1 ++ C) := by
     simp only [pdat, psq, pby, hs, hAA, hCC]
   rw [e] at hl ⊢
   simp only [List.length_append] at hb hl ⊢
   generalize (pls (d.ns.map fun n => pnm n true) pl (tx.length + A.length)).1 = N at *
   have hb := hb (by omega)
   rw [hA] at hb hl ⊢
   rw [if_pos (by omega)]
   simp only [List.append_assoc] at hb ⊢
   rw [hb]
   simp only [Option.bind_some]
   rw [if_pos (by omega)]
   congr 1
   rw [take_mid tx A _ tx.length (ahd t) rfl hA]
   have e2 : tx ++ (A ++ (N ++ (C ++ R))) = (tx ++ A ++ N) ++ (C ++ R) := by simp
   rw [e2, show tx.length + (ahd t + (N.length + C.length)) - (tx.length + ahd t + N.length) = C.length by omega, take_mid (tx ++ A ++ N) C R _ C.length (by simp only [List.length_append, hA]) rfl]
   exact h1
theorem bak_dat {t : Nat} {d : Dat} (h : checkF t d = 0) : Bak (psz (pdat t d)) (fun zs p => (g16 zs p).bind fun s => gdat t s.1 zs s.2) d := by
 intro tx pl R hI hl
 simp only [psz, List.length_append] at hl ⊢
 generalize hD : pdat t d pl (tx.length + 2) = D at *
 have hn : (numB D.1.length 2).length = 2 := numB_len _ _ (by omega)
 have h16 := bak_16 D.1.length (by omega) tx pl (D.1 ++ R) hI (by simp only [pby]; omega)
 simp only [pby] at h16
 rw [List.append_assoc, h16]
 simp only [Option.bind_some]
 unfold gdat
 rw [if_pos (by simp only [List.length_append]; omega)]
 have hg := gpl_back h (tx ++ numB D.1.length 2) pl R hI.more
 simp only [List.length_append, hn, hD] at hg
 have hg := hg (by omega)
 rw [List.append_assoc] at hg
 rw [hn, hg]
 simp only [Option.bind_some]
 unfold gdr
 rw [if_pos ⟨(check_parts h).1, wlen h⟩, read_write t d h]
 simp only [Option.map_some]
 rw [Nat.add_assoc]
theorem bak_rec {r : Rec} (ho : nck r.ow = 0) (h : checkF r.t r.d = 0) (ht : r.t <= 65535) (hc : r.cl <= 65535) (hl : r.tt <= 4294967295) : Bak (prec r) grec r := by
 have e := bak_bind (k := fun o zs p => (g16 zs p).bind fun t => (g16 zs t.2).bind fun c => (g32 zs c.2).bind fun l => (g16 zs l.2).bind fun s => (gdat t.1 s.1 zs s.2).map fun d => ((⟨o, t.1, c.1, l.1, d.1⟩ : Rec), d.2)) (y := r) (bak_nm r.ow true ho) (kps_nm _ _ ho)
   (bak_bind (k := fun t zs p => (g16 zs p).bind fun c => (g32 zs c.2).bind fun l => (g16 zs l.2).bind fun s => (gdat t s.1 zs s.2).map fun d => ((⟨r.ow, t, c.1, l.1, d.1⟩ : Rec), d.2)) (y := r) (bak_16 r.t ht) (kps_by _)
     (bak_bind (k := fun c zs p => (g32 zs p).bind fun l => (g16 zs l.2).bind fun s => (gdat r.t s.1 zs s.2).map fun d => ((⟨r.ow, r.t, c, l.1, d.1⟩ : Rec), d.2)) (y := r) (bak_16 r.cl hc) (kps_by _)
       (bak_bind (k := fun l zs p => (g16 zs p).bind fun s => (gdat r.t s.1 zs s.2).map fun d => ((⟨r.ow, r.t, r.cl, l, d.1⟩ : Rec), d.2)) (y := r) (bak_32 r.tt hl) (kps_by _) (by
         have := bak_map (fun d => (⟨r.ow, r.t, r.cl, r.tt, d⟩ : Rec)) (bak_dat h)
         intro tx pl R hI hl
         have h2 := this tx pl R hI hl
         simp only [Option.map_bind] at h2
         exact h2))))
 exact e
theorem bak_qn {q : Qn} (ho : nck q.nm = 0) (ht : q.ty <= 65535) (hc : q.cl <= 65535) : Bak (pqn q) gqn q := by
 have e := bak_bind (k := fun o zs p => (g16 zs p).bind fun t => (g16 zs t.2).map fun c => ((⟨o, t.1, c.1⟩ : Qn), c.2)) (y := q) (bak_nm q.nm true ho) (kps_nm _ _ ho)
   (bak_bind (k := fun t zs p => (g16 zs p).map fun c => ((⟨q.nm, t, c.1⟩ : Qn), c.2)) (y := q) (bak_16 q.ty ht) (kps_by _)
     (bak_map (fun c => (⟨q.nm, q.ty, c⟩ : Qn)) (bak_16 q.cl hc)))
 exact e
end Go.Proofs.YtkjnbgekaifdfaaGreat
namespace Go.Proofs.YtkjnbgekaifdfaaGreat
open Go.ChangeShapes Go.WideShapes Go.ChangeAt Go.RowKit
set_option maxHeartbeats 1000000 in
theorem flags40 (b : Nat) (w : World) :
   Calls Tryz.prog 95 #[.pointer (some ⟨b, 0, none⟩)] w fun e w' => e = .returned (.agg #[.int .i64 32768, .pointer (some ⟨b, 1, none⟩), .int .i64 1024, .pointer (some ⟨b, 3, none⟩), .int .i64 512, .pointer (some ⟨b, 4, none⟩), .int .i64 256, .pointer (some ⟨b, 5, none⟩), .int .i64 128, .pointer (some ⟨b, 6, none⟩), .int .i64 32, .pointer (some ⟨b, 7, none⟩), .int .i64 16, .pointer (some ⟨b, 8, none⟩)]) /\ Below w.heap.size w w' := by
 go_enter Tryz.func95, Tryz.ntmps95
 go_wp2
 go_region
 go_wp2
 refine bodyPost_ret (v := .agg #[.int .i64 32768, .pointer (some ⟨b, 1, none⟩), .int .i64 1024, .pointer (some ⟨b, 3, none⟩), .int .i64 512, .pointer (some ⟨b, 4, none⟩), .int .i64 256, .pointer (some ⟨b, 5, none⟩), .int .i64 128, .pointer (some ⟨b, 6, none⟩), .int .i64 32, .pointer (some ⟨b, 7, none⟩), .int .i64 16, .pointer (some ⟨b, 8, none⟩)]) ?_ rfl ⟨rfl, ?_⟩
 · simp [results, Tryz.results95, go_sem]
 exact ((Below.refl _ _).alloc (Nat.le_refl _) _).drew
end Go.Proofs.YtkjnbgekaifdfaaGreat
namespace Go.Proofs.YtkjnbgekaifdfaaGreat
theorem wrap_i64_nat (n : Nat) (h : n < 65536) : IntKind.i64.wrap (n : Int) = (n : Int) := by
 have e : (n : Int) % 2 ^ 64 = n := Int.emod_eq_of_lt (by omega) (by omega)
 simp only [IntKind.wrap, IntKind.bits, IntKind.signed, e]
 rw [if_neg]
 simp
 omega
theorem i64_or_nat (a b : Nat) (ha : a < 65536) (hb : b < 65536) : bits .or .i64 (a : Int) (b : Int) = ((a ||| b : Nat) : Int) := by
 have hx : a ||| b < 2 ^ 16 := Nat.or_lt_two_pow (by omega) (by omega)
 show IntKind.i64.wrap ((BitVec.ofInt 64 (a : Int) ||| BitVec.ofInt 64 (b : Int)).toNat : Int) = _
 rw [BitVec.toNat_or, ofInt_u64 a (by omega), ofInt_u64 b (by omega)]
 exact wrap_i64_nat _ (by omega)
theorem i64_and_nat (a b : Nat) (ha : a < 65536) (hb : b < 65536) : bits .and .i64 (a : Int) (b : Int) = ((a &&& b : Nat) : Int) := by
 have hx : a &&& b < 2 ^ 16 := Nat.and_lt_two_pow _ (by omega)
 show IntKind.i64.wrap ((BitVec.ofInt 64 (a : Int) &&& BitVec.ofInt 64 (b : Int)).toNat : Int) = _
 rw [BitVec.toNat_and, ofInt_u64 a (by omega), ofInt_u64 b (by omega)]
 exact wrap_i64_nat _ (by omega)
def fls (rs aa tc rd ra ad cd : Bool) : List (Bool × Nat) := [(rs, 32768), (aa, 1024), (tc, 512), (rd, 256), (ra, 128), (ad, 32), (cd, 16)]
def accN (n : Nat) (l : List (Bool × Nat)) : Nat := l.foldl (fun n x => if x.1 then n ||| x.2 else n) n
theorem accN_lt (l : List (Bool × Nat)) : ∀ n, n < 65536 -> (∀ x ∈ l, x.2 < 65536) -> accN n l < 65536 := by
 induction l with
 | nil => intro n h _; exact h
 | cons x r ih =>
   intro n h hx
   show accN (if x.1 then n ||| x.2 else n) r < 65536
   refine ih _ ?_ fun y hy => hx y (List.mem_cons_of_mem _ hy)
   split
   · exact Nat.or_lt_two_pow (n := 16) h (hx x List.mem_cons_self)
   · exact h
theorem fls_lt (rs aa tc rd ra ad cd : Bool) (x : Bool × Nat) (hx : x ∈ fls rs aa tc rd ra ad cd) : x.2 < 65536 := by
 simp only [fls, List.mem_cons, List.not_mem_nil, or_false] at hx
 rcases hx with rfl | rfl | rfl | rfl | rfl | rfl | rfl <;> simp
def packN (op rc : Nat) (rs aa tc rd ra ad cd : Bool) : Nat := accN (op * 2048 ||| rc) (fls rs aa tc rd ra ad cd)
theorem head_lt {op rc : Nat} (h1 : op < 16) (h2 : rc < 16) : op * 2048 ||| rc < 65536 := Nat.or_lt_two_pow (n := 16) (by omega) (by omega)
theorem packN_lt {op rc : Nat} (h1 : op < 16) (h2 : rc < 16) (rs aa tc rd ra ad cd : Bool) : packN op rc rs aa tc rd ra ad cd < 65536 :=
 accN_lt _ _ (head_lt h1 h2) (fls_lt rs aa tc rd ra ad cd)
theorem acc_take_lt {op rc : Nat} (h1 : op < 16) (h2 : rc < 16) (rs aa tc rd ra ad cd : Bool) (k : Nat) : accN (op * 2048 ||| rc) ((fls rs aa tc rd ra ad cd).take k) < 65536 :=
 accN_lt _ _ (head_lt h1 h2) fun x hx => fls_lt _ _ _ _ _ _ _ x (List.mem_of_mem_take hx)
theorem or_bit (n k : Nat) (h : n / 2 ^ k % 2 = 0) : n ||| 2 ^ k = n + 2 ^ k := by
 have hp : 0 < 2 ^ k := Nat.two_pow_pos k
 have e2 : 2 ^ (k + 1) = 2 ^ k * 2 := Nat.pow_succ ..
 have hlo : n % 2 ^ k < 2 ^ k := Nat.mod_lt _ hp
 have e0 : n = n / 2 ^ (k + 1) * 2 ^ (k + 1) + n % 2 ^ k := by
   have h1 := Nat.div_add_mod n (2 ^ k)
   have h2 : n / 2 ^ (k + 1) = n / 2 ^ k / 2 := by rw [e2, Nat.div_div_eq_div_mul]
   have h3 : n / 2 ^ k / 2 * 2 = n / 2 ^ k := by omega
   rw [h2, e2]
   have h4 : n / 2 ^ k / 2 * (2 ^ k * 2) = 2 ^ k * (n / 2 ^ k / 2 * 2) := by rw [Nat.mul_comm (2 ^ k) 2, <- Nat.mul_assoc, Nat.mul_comm]
   rw [h4, h3]
   exact h1.symm
 have hm : n / 2 ^ (k + 1) * 2 ^ (k + 1) % 2 ^ (k + 1) = 0 := Nat.mul_mod_left _ _
 have j1 : n / 2 ^ (k + 1) * 2 ^ (k + 1) ||| n % 2 ^ k = n / 2 ^ (k + 1) * 2 ^ (k + 1) + n % 2 ^ k := nat_join (k + 1) _ _ hm (by omega)
 have j2 : 2 ^ k ||| n % 2 ^ k = 2 ^ k + n % 2 ^ k := nat_join k _ _ (Nat.mod_self _) hlo
 have j3 : n / 2 ^ (k + 1) * 2 ^ (k + 1) ||| (2 ^ k + n % 2 ^ k) = n / 2 ^ (k + 1) * 2 ^ (k + 1) + (2 ^ k + n % 2 ^ k) := nat_join (k + 1) _ _ hm (by omega)
 calc n ||| 2 ^ k = (n / 2 ^ (k + 1) * 2 ^ (k + 1) ||| n % 2 ^ k) ||| 2 ^ k := by rw [j1, <- e0]
   _ = n / 2 ^ (k + 1) * 2 ^ (k + 1) ||| (2 ^ k ||| n % 2 ^ k) := by rw [Nat.or_assoc, Nat.or_comm (n % 2 ^ k)]
   _ = n / 2 ^ (k + 1) * 2 ^ (k + 1) + (2 ^ k + n % 2 ^ k) := by rw [j2, j3]
   _ = n + 2 ^ k := by omega
theorem step_bit (n k : Nat) (b : Bool) (h : n / 2 ^ k % 2 = 0) : (if b then n ||| 2 ^ k else n) = n + 2 ^ k * b.toNat := by
 cases b
 · simp
 · simp [or_bit n k h]
theorem packN_sum {op rc : Nat} (h1 : op < 16) (h2 : rc < 16) (rs aa tc rd ra ad cd : Bool) :
   packN op rc rs aa tc rd ra ad cd = op * 2048 + rc + 32768 * rs.toNat + 1024 * aa.toNat + 512 * tc.toNat + 256 * rd.toNat + 128 * ra.toNat + 32 * ad.toNat + 16 * cd.toNat := by
 have b1 := Bool.toNat_le rs; have b2 := Bool.toNat_le aa; have b3 := Bool.toNat_le tc; have b4 := Bool.toNat_le rd; have b5 := Bool.toNat_le ra; have b6 := Bool.toNat_le ad; have b7 := Bool.toNat_le cd
 have j0 : op * 2048 ||| rc = op * 2048 + rc := nat_join 11 _ _ (by omega) (by omega)
 simp only [packN, accN, fls, List.foldl_cons, List.foldl_nil, j0]
 have s1 := step_bit (op * 2048 + rc) 15 rs (by simp only [Nat.reducePow]; omega)
 simp only [Nat.reducePow] at s1
 rw [s1]
 have s2 := step_bit (op * 2048 + rc + 32768 * rs.toNat) 10 aa (by simp only [Nat.reducePow]; omega)
 simp only [Nat.reducePow] at s2
 rw [s2]
 have s3 := step_bit (op * 2048 + rc + 32768 * rs.toNat + 1024 * aa.toNat) 9 tc (by simp only [Nat.reducePow]; omega)
 simp only [Nat.reducePow] at s3
 rw [s3]
 have s4 := step_bit (op * 2048 + rc + 32768 * rs.toNat + 1024 * aa.toNat + 512 * tc.toNat) 8 rd (by simp only [Nat.reducePow]; omega)
 simp only [Nat.reducePow] at s4
 rw [s4]
 have s5 := step_bit (op * 2048 + rc + 32768 * rs.toNat + 1024 * aa.toNat + 512 * tc.toNat + 256 * rd.toNat) 7 ra (by simp only [Nat.reducePow]; omega)
 simp only [Nat.reducePow] at s5
 rw [s5]
 have s6 := step_bit (op * 2048 + rc + 32768 * rs.toNat + 1024 * aa.toNat + 512 * tc.toNat + 256 * rd.toNat + 128 * ra.toNat) 5 ad (by simp only [Nat.reducePow]; omega)
 simp only [Nat.reducePow] at s6
 rw [s6]
 have s7 := step_bit (op * 2048 + rc + 32768 * rs.toNat + 1024 * aa.toNat + 512 * tc.toNat + 256 * rd.toNat + 128 * ra.toNat + 32 * ad.toNat) 4 cd (by simp only [Nat.reducePow]; omega)
 simp only [Nat.reducePow] at s7
 rw [s7]
def unop (n : Nat) : Nat := n / 2048 % 16
def unrc (n : Nat) : Nat := n % 16
def unfl (n v : Nat) : Bool := n / v % 2 == 1
theorem unfl_of {n v : Nat} {b : Bool} (h : n / v % 2 = b.toNat) : unfl n v = b := by
 unfold unfl; rw [h]; cases b <;> rfl
theorem un_pack {op rc : Nat} (h1 : op < 16) (h2 : rc < 16) (rs aa tc rd ra ad cd : Bool) (N : Nat) (hN : N = packN op rc rs aa tc rd ra ad cd) :
   unop N = op /\ unrc N = rc /\ unfl N 64 = false /\ unfl N 32768 = rs /\ unfl N 1024 = aa /\ unfl N 512 = tc /\ unfl N 256 = rd /\ unfl N 128 = ra /\ unfl N 32 = ad /\ unfl N 16 = cd := by
 rw [packN_sum h1 h2] at hN
 have b1 := Bool.toNat_le rs; have b2 := Bool.toNat_le aa; have b3 := Bool.toNat_le tc; have b4 := Bool.toNat_le rd; have b5 := Bool.toNat_le ra; have b6 := Bool.toNat_le ad; have b7 := Bool.toNat_le cd
 refine ⟨by unfold unop; omega, by unfold unrc; omega, unfl_of (by rw [Bool.toNat_false]; omega), unfl_of (by omega), unfl_of (by omega), unfl_of (by omega), unfl_of (by omega), unfl_of (by omega), unfl_of (by omega), unfl_of (by omega)⟩
def wt (b : Bool) (n : Nat) : Nat := if b then n else 0
end Go.Proofs.YtkjnbgekaifdfaaGreat
namespace Go.Proofs.YtkjnbgekaifdfaaGreat
open Go.ChangeShapes Go.WideShapes Go.ChangeAt Go.RowKit
set_option maxHeartbeats 1000000 in
theorem pack_no (id : Int) (rs : Bool) (op : Int) (aa tc rd ra ad cd : Bool) (rc : Int) (a1 a2 a3 a4 : Option Addr) (n1 n2 n3 n4 c1 c2 c3 c4 : Nat) (w : World)
   (h : op < 0 ∨ (0 <= op /\ 15 < op) ∨ (0 <= op /\ op <= 15 /\ rc < 0) ∨ (0 <= op /\ op <= 15 /\ 0 <= rc /\ 15 < rc)) :
   Calls Tryz.prog 68 #[.agg #[.int .u16 id, .bool rs, .int .i64 op, .bool aa, .bool tc, .bool rd, .bool ra, .bool ad, .bool cd, .int .i64 rc, .slice a1 n1 c1, .slice a2 n2 c2, .slice a3 n3 c3, .slice a4 n4 c4]] w fun e w' => e = .returned (.tuple #[.int .i64 0, .int .i64 2]) /\ Below w.heap.size w w' := by
 rcases h with h | ⟨h0, h⟩ | ⟨h0, h1, h⟩ | ⟨h0, h1, h2, h⟩
 all_goals
   go_enter Tryz.func68, Tryz.ntmps68
   go_wp2
   go_ret2
   exact ⟨rfl, (Below.refl _ _).alloc (Nat.le_refl _) _⟩
theorem ix0 (b : Nat) (w : World) : (Instr.index 146 (.agg #[.int .i64 32768, .pointer (some ⟨b, 1, none⟩), .int .i64 1024, .pointer (some ⟨b, 3, none⟩), .int .i64 512, .pointer (some ⟨b, 4, none⟩), .int .i64 256, .pointer (some ⟨b, 5, none⟩), .int .i64 128, .pointer (some ⟨b, 6, none⟩), .int .i64 32, .pointer (some ⟨b, 7, none⟩), .int .i64 16, .pointer (some ⟨b, 8, none⟩)]) (.int .i64 0)).run Tryz.prog w = .ok (.agg #[.int .i64 32768, .pointer (some ⟨b, 1, none⟩)]) w := by kernel_rfl
theorem ix1 (b : Nat) (w : World) : (Instr.index 146 (.agg #[.int .i64 32768, .pointer (some ⟨b, 1, none⟩), .int .i64 1024, .pointer (some ⟨b, 3, none⟩), .int .i64 512, .pointer (some ⟨b, 4, none⟩), .int .i64 256, .pointer (some ⟨b, 5, none⟩), .int .i64 128, .pointer (some ⟨b, 6, none⟩), .int .i64 32, .pointer (some ⟨b, 7, none⟩), .int .i64 16, .pointer (some ⟨b, 8, none⟩)]) (.int .i64 1)).run Tryz.prog w = .ok (.agg #[.int .i64 1024, .pointer (some ⟨b, 3, none⟩)]) w := by kernel_rfl
theorem ix2 (b : Nat) (w : World) : (Instr.index 146 (.agg #[.int .i64 32768, .pointer (some ⟨b, 1, none⟩), .int .i64 1024, .pointer (some ⟨b, 3, none⟩), .int .i64 512, .pointer (some ⟨b, 4, none⟩), .int .i64 256, .pointer (some ⟨b, 5, none⟩), .int .i64 128, .pointer (some ⟨b, 6, none⟩), .int .i64 32, .pointer (some ⟨b, 7, none⟩), .int .i64 16, .pointer (some ⟨b, 8, none⟩)]) (.int .i64 2)).run Tryz.prog w = .ok (.agg #[.int .i64 512, .pointer (some ⟨b, 4, none⟩)]) w := by kernel_rfl
theorem ix3 (b : Nat) (w : World) : (Instr.index 146 (.agg #[.int .i64 32768, .pointer (some ⟨b, 1, none⟩), .int .i64 1024, .pointer (some ⟨b, 3, none⟩), .int .i64 512, .pointer (some ⟨b, 4, none⟩), .int .i64 256, .pointer (some ⟨b, 5, none⟩), .int .i64 128, .pointer (some ⟨b, 6, none⟩), .int .i64 32, .pointer (some ⟨b, 7, none⟩), .int .i64 16, .pointer (some ⟨b, 8, none⟩)]) (.int .i64 3)).run Tryz.prog w = .ok (.agg #[.int .i64 256, .pointer (some ⟨b, 5, none⟩)]) w := by kernel_rfl
theorem ix4 (b : Nat) (w : World) : (Instr.index 146 (.agg #[.int .i64 32768, .pointer (some ⟨b, 1, none⟩), .int .i64 1024, .pointer (some ⟨b, 3, none⟩), .int .i64 512, .pointer (some ⟨b, 4, none⟩), .int .i64 256, .pointer (some ⟨b, 5, none⟩), .int .i64 128, .pointer (some ⟨b, 6, none⟩), .int .i64 32, .pointer (some ⟨b, 7, none⟩), .int .i64 16, .pointer (some ⟨b, 8, none⟩)]) (.int .i64 4)).run Tryz.prog w = .ok (.agg #[.int .i64 128, .pointer (some ⟨b, 6, none⟩)]) w := by kernel_rfl
theorem ix5 (b : Nat) (w : World) : (Instr.index 146 (.agg #[.int .i64 32768, .pointer (some ⟨b, 1, none⟩), .int .i64 1024, .pointer (some ⟨b, 3, none⟩), .int .i64 512, .pointer (some ⟨b, 4, none⟩), .int .i64 256, .pointer (some ⟨b, 5, none⟩), .int .i64 128, .pointer (some ⟨b, 6, none⟩), .int .i64 32, .pointer (some ⟨b, 7, none⟩), .int .i64 16, .pointer (some ⟨b, 8, none⟩)]) (.int .i64 5)).run Tryz.prog w = .ok (.agg #[.int .i64 32, .pointer (some ⟨b, 7, none⟩)]) w := by kernel_rfl
theorem ix6 (b : Nat) (w : World) : (Instr.index 146 (.agg #[.int .i64 32768, .pointer (some ⟨b, 1, none⟩), .int .i64 1024, .pointer (some ⟨b, 3, none⟩), .int .i64 512, .pointer (some ⟨b, 4, none⟩), .int .i64 256, .pointer (some ⟨b, 5, none⟩), .int .i64 128, .pointer (some ⟨b, 6, none⟩), .int .i64 32, .pointer (some ⟨b, 7, none⟩), .int .i64 16, .pointer (some ⟨b, 8, none⟩)]) (.int .i64 6)).run Tryz.prog w = .ok (.agg #[.int .i64 16, .pointer (some ⟨b, 8, none⟩)]) w := by kernel_rfl
def MBox (w : World) (b : Nat) (id : Value) (rs : Bool) (op : Value) (aa tc rd ra ad cd : Bool) : Prop :=
 b < w.heap.size /\ w.cell? ⟨b, 1, none⟩ = some (.bool rs) /\ w.cell? ⟨b, 3, none⟩ = some (.bool aa) /\ w.cell? ⟨b, 4, none⟩ = some (.bool tc) /\ w.cell? ⟨b, 5, none⟩ = some (.bool rd) /\ w.cell? ⟨b, 6, none⟩ = some (.bool ra) /\ w.cell? ⟨b, 7, none⟩ = some (.bool ad) /\ w.cell? ⟨b, 8, none⟩ = some (.bool cd)
theorem MBox.below {w w' : World} {b : Nat} {id : Value} {rs : Bool} {op : Value} {aa tc rd ra ad cd : Bool} (h : MBox w b id rs op aa tc rd ra ad cd) (hb : Below w.heap.size w w') : MBox w' b id rs op aa tc rd ra ad cd := by
 obtain ⟨h0, h1, h2, h3, h4, h5, h6, h7⟩ := h
 exact ⟨Nat.lt_of_lt_of_le h0 hb.size, (hb.cell (p := ⟨b, 1, none⟩) h0).trans h1, (hb.cell (p := ⟨b, 3, none⟩) h0).trans h2, (hb.cell (p := ⟨b, 4, none⟩) h0).trans h3, (hb.cell (p := ⟨b, 5, none⟩) h0).trans h4, (hb.cell (p := ⟨b, 6, none⟩) h0).trans h5, (hb.cell (p := ⟨b, 7, none⟩) h0).trans h6, (hb.cell (p := ⟨b, 8, none⟩) h0).trans h7⟩
set_option maxHeartbeats 1000000 in
theorem pack_ok (id : Int) (rs : Bool) (op : Nat) (aa tc rd ra ad cd : Bool) (rc : Nat) (a1 a2 a3 a4 : Option Addr) (n1 n2 n3 n4 c1 c2 c3 c4 : Nat) (w : World)
   (ho : op < 16) (hr : rc < 16) :
   Calls Tryz.prog 68 #[.agg #[.int .u16 id, .bool rs, .int .i64 (op : Int), .bool aa, .bool tc, .bool rd, .bool ra, .bool ad, .bool cd, .int .i64 (rc : Int), .slice a1 n1 c1, .slice a2 n2 c2, .slice a3 n3 c3, .slice a4 n4 c4]] w fun e w' => e = .returned (.tuple #[.int .i64 (packN op rc rs aa tc rd ra ad cd : Nat), .int .i64 0]) /\ Below w.heap.size w w' := by
 have h1 : ¬ (op : Int) < 0 := by omega
 have h2 : (op : Int) <= 15 := by omega
 have h3 : ¬ (rc : Int) < 0 := by omega
 have h4 : (rc : Int) <= 15 := by omega
 have HT : ∀ k, Hid (accN (op * 2048 ||| rc) ((fls rs aa tc rd ra ad cd).take k) < 65536) := fun k => acc_take_lt ho hr rs aa tc rd ra ad cd k
 have HP : Hid (packN op rc rs aa tc rd ra ad cd = accN (op * 2048 ||| rc) (fls rs aa tc rd ra ad cd)) := rfl
 obtain ⟨N0, hN0⟩ : ∃ N0, N0 = op * 2048 ||| rc := ⟨_, rfl⟩
 have h5 : bits .or .i64 ((op : Int) * 2048) (rc : Int) = (N0 : Int) := by
   have := i64_or_nat (op * 2048) rc (by omega) (by omega)
   rw [hN0]; simpa using this
 have HT' : ∀ k, Hid (accN N0 ((fls rs aa tc rd ra ad cd).take k) < 65536) := by rw [hN0]; exact HT
 have HP' : Hid (packN op rc rs aa tc rd ra ad cd = accN N0 (fls rs aa tc rd ra ad cd)) := by rw [hN0]; exact HP
 clear HT HP hN0
 generalize packN op rc rs aa tc rd ra ad cd = P at *
 go_enter Tryz.func68, Tryz.ntmps68
 go_wp2_with fail
 refine (flags40 _ _).mono ?_
 rintro e w1 ⟨rfl, hb1⟩
 have HM : Hid (MBox w1 w.heap.size (.int .u16 id) rs (.int .i64 op) aa tc rd ra ad cd) := by
   refine MBox.below ?_ hb1
   simp [MBox]
 have HB : Hid (Below w.heap.size w w1) := (((Below.refl _ _).alloc (Nat.le_refl _) _).trans (hb1.mono (by simp)))
 clear hb1
 go_wp2_with fail
 go_loopw [4, 32] (fun y x wr => ∃ k : Nat, k <= 7 /\ x = .int .i64 (k : Int) /\ y = .int .i64 (accN N0 ((fls rs aa tc rd ra ad cd).take k) : Nat) /\ Hid (Below w1.heap.size w1 wr)) (fun _ x _ => 7 - (intOf x).toNat)
 case atStart => exact ⟨0, by omega, rfl, rfl, Below.refl _ _⟩
 case round =>
   obtain ⟨k, hk, rfl, rfl, HW⟩ := hrel
   have HM' := HM.out.below HW.out
   obtain ⟨m0, m1, m2, m3, m4, m5, m6, m7⟩ := HM'
   by_cases hlt : k < 7
   · have hlt' : (k : Int) < 7 := by omega
     have hstep : ∀ (x : Bool) (v : Nat), (fls rs aa tc rd ra ad cd)[k]? = some (x, v) -> Hid (v < 65536 -> (x = true -> bits .or .i64 (accN N0 ((fls rs aa tc rd ra ad cd).take k) : Nat) (v : Int) = (accN N0 ((fls rs aa tc rd ra ad cd).take (k + 1)) : Nat)) /\ (x = false -> accN N0 ((fls rs aa tc rd ra ad cd).take (k + 1)) = accN N0 ((fls rs aa tc rd ra ad cd).take k))) := by
       intro x v e hv
       have e2 : (fls rs aa tc rd ra ad cd).take (k + 1) = (fls rs aa tc rd ra ad cd).take k ++ [(x, v)] := by rw [List.take_add_one, e]; rfl
       constructor
       · intro ex
         rw [i64_or_nat _ _ (HT' k).out hv, e2]
         simp [accN, ex]
       · intro ex
         rw [e2]
         simp [accN, ex]
     rcases Nat.lt_or_ge k 1 with hk' | hk'
     · obtain rfl : k = 0 := by omega
       have HS := hstep rs 32768 rfl
       have ix := ix0 w.heap.size
       clear hstep
       generalize accN N0 ((fls rs aa tc rd ra ad cd).take 0) = A at *
       obtain ⟨A', hA'⟩ : ∃ A', A' = accN N0 ((fls rs aa tc rd ra ad cd).take (0 + 1)) := ⟨_, rfl⟩
       rw [<- hA'] at HS
       have HA' : Hid (A' = accN N0 ((fls rs aa tc rd ra ad cd).take (0 + 1))) := hA'
       clear hA'
       obtain ⟨xx, hxx⟩ : ∃ xx, xx = rs := ⟨_, rfl⟩
       rw [<- hxx] at m1 HS
       have HX : Hid (xx = rs) := hxx
       clear hxx
       cases xx
       · have hA : Hid (A' = A) := (HS.out (by omega)).2 rfl
         go_wp2
         go_round
         case rel => exact ⟨0 + 1, by omega, by go_num, by rw [<- HA'.out, hA.out], (HW.out.alloc HW.out.size _)⟩
         case measure => simp [intOf]
       · have hA : bits .or .i64 (A : Int) 32768 = (A' : Int) := (HS.out (by omega)).1 rfl
         go_wp2
         go_round
         case rel => exact ⟨0 + 1, by omega, by go_num, by rw [<- HA'.out], (HW.out.alloc HW.out.size _)⟩
         case measure => simp [intOf]
     rcases Nat.lt_or_ge k 2 with hk' | hk'
     · obtain rfl : k = 1 := by omega
       have HS := hstep aa 1024 rfl
       have ix := ix1 w.heap.size
       clear hstep
       generalize accN N0 ((fls rs aa tc rd ra ad cd).take 1) = A at *
       obtain ⟨A', hA'⟩ : ∃ A', A' = accN N0 ((fls rs aa tc rd ra ad cd).take (1 + 1)) := ⟨_, rfl⟩
       rw [<- hA'] at HS
       have HA' : Hid (A' = accN N0 ((fls rs aa tc rd ra ad cd).take (1 + 1))) := hA'
       clear hA'
       obtain ⟨xx, hxx⟩ : ∃ xx, xx = aa := ⟨_, rfl⟩
       rw [<- hxx] at m2 HS
       have HX : Hid (xx = aa) := hxx
       clear hxx
       cases xx
       · have hA : Hid (A' = A) := (HS.out (by omega)).2 rfl
         go_wp2
         go_round
         case rel => exact ⟨1 + 1, by omega, by go_num, by rw [<- HA'.out, hA.out], (HW.out.alloc HW.out.size _)⟩
         case measure => simp [intOf]
       · have hA : bits .or .i64 (A : Int) 1024 = (A' : Int) := (HS.out (by omega)).1 rfl
         go_wp2
         go_round
         case rel => exact ⟨1 + 1, by omega, by go_num, by rw [<- HA'.out], (HW.out.alloc HW.out.size _)⟩
         case measure => simp [intOf]
     rcases Nat.lt_or_ge k 3 with hk' | hk'
     · obtain rfl : k = 2 := by omega
       have HS := hstep tc 512 rfl
       have ix := ix2 w.heap.size
       clear hstep
       generalize accN N0 ((fls rs aa tc rd ra ad cd).take 2) = A at *
       obtain ⟨A', hA'⟩ : ∃ A', A' = accN N0 ((fls rs aa tc rd ra ad cd).take (2 + 1)) := ⟨_, rfl⟩
       rw [<- hA'] at HS
       have HA' : Hid (A' = accN N0 ((fls rs aa tc rd ra ad cd).take (2 + 1))) := hA'
       clear hA'
       obtain ⟨xx, hxx⟩ : ∃ xx, xx = tc := ⟨_, rfl⟩
       rw [<- hxx] at m3 HS
       have HX : Hid (xx = tc) := hxx
       clear hxx
       cases xx
       · have hA : Hid (A' = A) := (HS.out (by omega)).2 rfl
         go_wp2
         go_round
         case rel => exact ⟨2 + 1, by omega, by go_num, by rw [<- HA'.out, hA.out], (HW.out.alloc HW.out.size _)⟩
         case measure => simp [intOf]
       · have hA : bits .or .i64 (A : Int) 512 = (A' : Int) := (HS.out (by omega)).1 rfl
         go_wp2
         go_round
         case rel => exact ⟨2 + 1, by omega, by go_num, by rw [<- HA'.out], (HW.out.alloc HW.out.size _)⟩
         case measure => simp [intOf]
     rcases Nat.lt_or_ge k 4 with hk' | hk'
     · obtain rfl : k = 3 := by omega
       have HS := hstep rd 256 rfl
       have ix := ix3 w.heap.size
       clear hstep
       generalize accN N0 ((fls rs aa tc rd ra ad cd).take 3) = A at *
       obtain ⟨A', hA'⟩ : ∃ A', A' = accN N0 ((fls rs aa tc rd ra ad cd).take (3 + 1)) := ⟨_, rfl⟩
       rw [<- hA'] at HS
       have HA' : Hid (A' = accN N0 ((fls rs aa tc rd ra ad cd).take (3 + 1))) := hA'
       clear hA'
       obtain ⟨xx, hxx⟩ : ∃ xx, xx = rd := ⟨_, rfl⟩
       rw [<- hxx] at m4 HS
       have HX : Hid (xx = rd) := hxx
       clear hxx
       cases xx
       · have hA : Hid (A' = A) := (HS.out (by omega)).2 rfl
         go_wp2
         go_round
         case rel => exact ⟨3 + 1, by omega, by go_num, by rw [<- HA'.out, hA.out], (HW.out.alloc HW.out.size _)⟩
         case measure => simp [intOf]
       · have hA : bits .or .i64 (A : Int) 256 = (A' : Int) := (HS.out (by omega)).1 rfl
         go_wp2
         go_round
         case rel => exact ⟨3 + 1, by omega, by go_num, by rw [<- HA'.out], (HW.out.alloc HW.out.size _)⟩
         case measure => simp [intOf]
     rcases Nat.lt_or_ge k 5 with hk' | hk'
     · obtain rfl : k = 4 := by omega
       have HS := hstep ra 128 rfl
       have ix := ix4 w.heap.size
       clear hstep
       generalize accN N0 ((fls rs aa tc rd ra ad cd).take 4) = A at *
       obtain ⟨A', hA'⟩ : ∃ A', A' = accN N0 ((fls rs aa tc rd ra ad cd).take (4 + 1)) := ⟨_, rfl⟩
       rw [<- hA'] at HS
       have HA' : Hid (A' = accN N0 ((fls rs aa tc rd ra ad cd).take (4 + 1))) := hA'
       clear hA'
       obtain ⟨xx, hxx⟩ : ∃ xx, xx = ra := ⟨_, rfl⟩
       rw [<- hxx] at m5 HS
       have HX : Hid (xx = ra) := hxx
       clear hxx
       cases xx
       · have hA : Hid (A' = A) := (HS.out (by omega)).2 rfl
         go_wp2
         go_round
         case rel => exact ⟨4 + 1, by omega, by go_num, by rw [<- HA'.out, hA.out], (HW.out.alloc HW.out.size _)⟩
         case measure => simp [intOf]
       · have hA : bits .or .i64 (A : Int) 128 = (A' : Int) := (HS.out (by omega)).1 rfl
         go_wp2
         go_round
         case rel => exact ⟨4 + 1, by omega, by go_num, by rw [<- HA'.out], (HW.out.alloc HW.out.size _)⟩
         case measure => simp [intOf]
     rcases Nat.lt_or_ge k 6 with hk' | hk'
     · obtain rfl : k = 5 := by omega
       have HS := hstep ad 32 rfl
       have ix := ix5 w.heap.size
       clear hstep
       generalize accN N0 ((fls rs aa tc rd ra ad cd).take 5) = A at *
       obtain ⟨A', hA'⟩ : ∃ A', A' = accN N0 ((fls rs aa tc rd ra ad cd).take (5 + 1)) := ⟨_, rfl⟩
       rw [<- hA'] at HS
       have HA' : Hid (A' = accN N0 ((fls rs aa tc rd ra ad cd).take (5 + 1))) := hA'
       clear hA'
       obtain ⟨xx, hxx⟩ : ∃ xx, xx = ad := ⟨_, rfl⟩
       rw [<- hxx] at m6 HS
       have HX : Hid (xx = ad) := hxx
       clear hxx
       cases xx
       · have hA : Hid (A' = A) := (HS.out (by omega)).2 rfl
         go_wp2
         go_round
         case rel => exact ⟨5 + 1, by omega, by go_num, by rw [<- HA'.out, hA.out], (HW.out.alloc HW.out.size _)⟩
         case measure => simp [intOf]
       · have hA : bits .or .i64 (A : Int) 32 = (A' : Int) := (HS.out (by omega)).1 rfl
         go_wp2
         go_round
         case rel => exact ⟨5 + 1, by omega, by go_num, by rw [<- HA'.out], (HW.out.alloc HW.out.size _)⟩
         case measure => simp [intOf]
     rcases Nat.lt_or_ge k 7 with hk' | hk'
     · obtain rfl : k = 6 := by omega
       have HS := hstep cd 16 rfl
       have ix := ix6 w.heap.size
       clear hstep
       generalize accN N0 ((fls rs aa tc rd ra ad cd).take 6) = A at *
       obtain ⟨A', hA'⟩ : ∃ A', A' = accN N0 ((fls rs aa tc rd ra ad cd).take (6 + 1)) := ⟨_, rfl⟩
       rw [<- hA'] at HS
       have HA' : Hid (A' = accN N0 ((fls rs aa tc rd ra ad cd).take (6 + 1))) := hA'
       clear hA'
       obtain ⟨xx, hxx⟩ : ∃ xx, xx = cd := ⟨_, rfl⟩
       rw [<- hxx] at m7 HS
       have HX : Hid (xx = cd) := hxx
       clear hxx
       cases xx
       · have hA : Hid (A' = A) := (HS.out (by omega)).2 rfl
         go_wp2
         go_round
         case rel => exact ⟨6 + 1, by omega, by go_num, by rw [<- HA'.out, hA.out], (HW.out.alloc HW.out.size _)⟩
         case measure => simp [intOf]
       · have hA : bits .or .i64 (A : Int) 16 = (A' : Int) := (HS.out (by omega)).1 rfl
         go_wp2
         go_round
         case rel => exact ⟨6 + 1, by omega, by go_num, by rw [<- HA'.out], (HW.out.alloc HW.out.size _)⟩
         case measure => simp [intOf]
     · omega
   · obtain rfl : k = 7 := by omega
     go_wp2
     go_ret2
     refine ⟨?_, HB.out.trans (HW.out.mono HB.out.size)⟩
     rw [HP'.out]
     rfl
end Go.Proofs.YtkjnbgekaifdfaaGreat
namespace Go.Proofs.YtkjnbgekaifdfaaGreat
open Go.ChangeShapes Go.WideShapes Go.ChangeAt Go.RowKit
theorem copy_into (W : World) (D S so : Nat) (x y z0 z1 z2 z3 c0 c1 c2 c3 : Int) (sc : Nat) (hD : W.heap[D]? = some (.cells #[.int .i64 x, .int .i64 y, .int .i64 z0, .int .i64 z1, .int .i64 z2, .int .i64 z3] 114))
   (h0 : W.cell? ⟨S, 0, none⟩ = some (.int .i64 c0)) (h1 : W.cell? ⟨S, 1, none⟩ = some (.int .i64 c1)) (h2 : W.cell? ⟨S, 2, none⟩ = some (.int .i64 c2)) (h3 : W.cell? ⟨S, 3, none⟩ = some (.int .i64 c3)) :
   (Builtin.copy_ #[43, 43] 3 #[.slice (some ⟨D, 2, none⟩) 4 4, .slice (some ⟨S, 0, none⟩) 4 4]).run Tryz.prog W = .ok (.int .i64 4) (W.setRow D #[.int .i64 x, .int .i64 y, .int .i64 c0, .int .i64 c1, .int .i64 c2, .int .i64 c3]) := by
 have := run_copy_row (P := Tryz.prog) W 43 43 3 3 D 2 4 4 ⟨S, 0, none⟩ 4 4 _ 114 [.int .i64 c0, .int .i64 c1, .int .i64 c2, .int .i64 c3] Tryz.underlying43 (by kernel_rfl) hD (by simp)
   (by
     intro j u hj
     match j, hj with
     | 0, hj => simp at hj; subst hj; simpa [Addr.add] using h0
     | 1, hj => simp at hj; subst hj; simpa [Addr.add] using h1
     | 2, hj => simp at hj; subst hj; simpa [Addr.add] using h2
     | 3, hj => simp at hj; subst hj; simpa [Addr.add] using h3
     | j + 4, hj => simp at hj) (by simp) (by intro u hu; simp at hu; rcases hu with rfl | rfl | rfl | rfl <;> rfl)
 rw [this]
 simp [goInt]
theorem copy_out (W : World) (D S : Nat) (z0 z1 z2 z3 c0 c1 c2 c3 : Int) (hD : W.heap[D]? = some (.cells #[.int .i64 z0, .int .i64 z1, .int .i64 z2, .int .i64 z3] 74))
   (h0 : W.cell? ⟨S, 2, none⟩ = some (.int .i64 c0)) (h1 : W.cell? ⟨S, 3, none⟩ = some (.int .i64 c1)) (h2 : W.cell? ⟨S, 4, none⟩ = some (.int .i64 c2)) (h3 : W.cell? ⟨S, 5, none⟩ = some (.int .i64 c3)) :
   (Builtin.copy_ #[43, 43] 3 #[.slice (some ⟨D, 0, none⟩) 4 4, .slice (some ⟨S, 2, none⟩) 4 4]).run Tryz.prog W = .ok (.int .i64 4) (W.setRow D #[.int .i64 c0, .int .i64 c1, .int .i64 c2, .int .i64 c3]) := by
 have := run_copy_row (P := Tryz.prog) W 43 43 3 3 D 0 4 4 ⟨S, 2, none⟩ 4 4 _ 74 [.int .i64 c0, .int .i64 c1, .int .i64 c2, .int .i64 c3] Tryz.underlying43 (by kernel_rfl) hD (by simp)
   (by
     intro j u hj
     match j, hj with
     | 0, hj => simp at hj; subst hj; simpa [Addr.add] using h0
     | 1, hj => simp at hj; subst hj; simpa [Addr.add] using h1
     | 2, hj => simp at hj; subst hj; simpa [Addr.add] using h2
     | 3, hj => simp at hj; subst hj; simpa [Addr.add] using h3
     | j + 4, hj => simp at hj) (by simp) (by intro u hu; simp at hu; rcases hu with rfl | rfl | rfl | rfl <;> rfl)
 rw [this]
 simp [goInt]
theorem setRow_block {W : World} {D : Nat} {cs : Array Value} {ty : TypeId} (hD : W.heap[D]? = some (.cells cs ty)) (ds : Array Value) : (W.setRow D ds).heap[D]? = some (.cells ds ty) := by
 simp [World.setRow, Array.getElem?_modify, hD]
theorem setRow_size (W : World) (D : Nat) (ds : Array Value) : (W.setRow D ds).heap.size = W.heap.size := by simp [World.setRow]
theorem cell_of_block {W : World} {D i : Nat} {cs : Array Value} {ty : TypeId} {v : Value} (hD : W.heap[D]? = some (.cells cs ty)) (hv : cs[i]? = some v) : W.cell? ⟨D, i, none⟩ = some v := by
 simp [World.cell?, hD, hv]
theorem frozen_of_block {W : World} {D i : Nat} {cs : Array Value} {ty : TypeId} (hD : W.heap[D]? = some (.cells cs ty)) : W.frozen? ⟨D, i, none⟩ = false := by
 simp [World.frozen?, hD]
theorem alloc3 (w : World) (o1 o2 o3 : Obj) : (((w.alloc o1).alloc o2).alloc o3).drew.heap[w.heap.size]? = some o1 /\ (((w.alloc o1).alloc o2).alloc o3).drew.heap[w.heap.size + 1]? = some o2 /\ (((w.alloc o1).alloc o2).alloc o3).drew.heap[w.heap.size + 1 + 1]? = some o3 := by
 refine ⟨?_, ?_, ?_⟩
 · show (((w.heap.push o1).push o2).push o3)[w.heap.size]? = some o1
   simp only [Array.getElem?_push, Array.size_push]
   repeat (first | rw [if_pos (by omega)] | rw [if_neg (by omega)])
   try simp
 · show (((w.heap.push o1).push o2).push o3)[w.heap.size + 1]? = some o2
   simp only [Array.getElem?_push, Array.size_push]
   repeat (first | rw [if_pos (by omega)] | rw [if_neg (by omega)])
   try simp
 · show (((w.heap.push o1).push o2).push o3)[w.heap.size + 1 + 1]? = some o3
   simp only [Array.getElem?_push, Array.size_push]
   repeat (first | rw [if_pos (by omega)] | rw [if_neg (by omega)])
   try simp
set_option maxHeartbeats 1000000 in
theorem together_any (x y c0 c1 c2 c3 : Int) (w : World) :
   Calls Tryz.prog 69 #[.int .i64 x, .int .i64 y, .agg #[.int .i64 c0, .int .i64 c1, .int .i64 c2, .int .i64 c3]] w fun e w' => e = .returned (.agg #[.int .i64 x, .int .i64 y, .int .i64 c0, .int .i64 c1, .int .i64 c2, .int .i64 c3]) /\ Below w.heap.size w w' := by
 obtain ⟨W2, h, g0, g1, g2, g3, g4, g5, hs, HB⟩ : ∃ W2, (Builtin.copy_ #[43, 43] 3 #[.slice (some ⟨w.heap.size + 1 + 1, 2, none⟩) 4 4, .slice (some ⟨w.heap.size, 0, none⟩) 4 4]).run Tryz.prog (((w.alloc (.cells #[.int .i64 c0, .int .i64 c1, .int .i64 c2, .int .i64 c3] 74)).alloc (.cells #[.int .i64 0, .int .i64 0, .int .i64 0, .int .i64 0, .int .i64 0, .int .i64 0] 114)).alloc (.cells #[.int .i64 x, .int .i64 y, .int .i64 0, .int .i64 0, .int .i64 0, .int .i64 0] 114)).drew = .ok (.int .i64 4) W2 /\
     W2.cell? ⟨w.heap.size + 1 + 1, 0, none⟩ = some (.int .i64 x) /\ W2.cell? ⟨w.heap.size + 1 + 1, 1, none⟩ = some (.int .i64 y) /\ W2.cell? ⟨w.heap.size + 1 + 1, 2, none⟩ = some (.int .i64 c0) /\ W2.cell? ⟨w.heap.size + 1 + 1, 3, none⟩ = some (.int .i64 c1) /\ W2.cell? ⟨w.heap.size + 1 + 1, 4, none⟩ = some (.int .i64 c2) /\ W2.cell? ⟨w.heap.size + 1 + 1, 5, none⟩ = some (.int .i64 c3) /\ W2.heap[w.heap.size + 1]? = some (.cells #[.int .i64 0, .int .i64 0, .int .i64 0, .int .i64 0, .int .i64 0, .int .i64 0] 114) /\ Hid (Below w.heap.size w W2) := by
   obtain ⟨f1, f2, hD⟩ := alloc3 w (.cells #[.int .i64 c0, .int .i64 c1, .int .i64 c2, .int .i64 c3] 74) (.cells #[.int .i64 0, .int .i64 0, .int .i64 0, .int .i64 0, .int .i64 0, .int .i64 0] 114) (.cells #[.int .i64 x, .int .i64 y, .int .i64 0, .int .i64 0, .int .i64 0, .int .i64 0] 114)
   have hb := setRow_block hD #[.int .i64 x, .int .i64 y, .int .i64 c0, .int .i64 c1, .int .i64 c2, .int .i64 c3]
   refine ⟨_, copy_into _ _ _ 0 x y 0 0 0 0 c0 c1 c2 c3 0 hD (cell_of_block f1 rfl) (cell_of_block f1 rfl) (cell_of_block f1 rfl) (cell_of_block f1 rfl), cell_of_block hb rfl, cell_of_block hb rfl, cell_of_block hb rfl, cell_of_block hb rfl, cell_of_block hb rfl, cell_of_block hb rfl, ?_, ?_⟩
   · rw [setRow_other _ _ _ _ (by omega)]; exact f2
   · exact below_setRow ((((((Below.refl _ _).alloc (Nat.le_refl _) _).alloc (by simp) _).alloc (by simp; omega) _)).drew) (by omega) _
 go_enter Tryz.func69, Tryz.ntmps69
 go_wp2
 go_region
 have hlt : w.heap.size + 1 < W2.heap.size := by
   rcases Nat.lt_or_ge (w.heap.size + 1) W2.heap.size with h | h
   · exact h
   · rw [Array.getElem?_eq_none h] at hs; cases hs
 have k0 := cell_of_block (i := 0) hs rfl
 have k1 := cell_of_block (i := 1) hs rfl
 have k2 := cell_of_block (i := 2) hs rfl
 have k3 := cell_of_block (i := 3) hs rfl
 have k4 := cell_of_block (i := 4) hs rfl
 have k5 := cell_of_block (i := 5) hs rfl
 have l0 := frozen_of_block (i := 0) hs
 have l1 := frozen_of_block (i := 1) hs
 have l2 := frozen_of_block (i := 2) hs
 have l3 := frozen_of_block (i := 3) hs
 have l4 := frozen_of_block (i := 4) hs
 have l5 := frozen_of_block (i := 5) hs
 clear h
 have HS : Hid (W2.heap[w.heap.size + 1]? = some (.cells #[.int .i64 0, .int .i64 0, .int .i64 0, .int .i64 0, .int .i64 0, .int .i64 0] 114)) := hs
 clear hs
 go_wp2
 refine bodyPost_ret (v := .agg #[.int .i64 x, .int .i64 y, .int .i64 c0, .int .i64 c1, .int .i64 c2, .int .i64 c3]) ?_ rfl ⟨rfl, ?_⟩
 · simp [results, Tryz.results69, go_sem, k0, k1, k2, k3, k4, k5, hlt]
 · exact (((((HB.out.setCell (p := ⟨_, _, none⟩) (by simp) _).setCell (p := ⟨_, _, none⟩) (by simp) _).setCell (p := ⟨_, _, none⟩) (by simp) _).setCell (p := ⟨_, _, none⟩) (by simp) _).setCell (p := ⟨_, _, none⟩) (by simp) _).setCell (p := ⟨_, _, none⟩) (by simp) _
end Go.Proofs.YtkjnbgekaifdfaaGreat
namespace Go.Proofs.YtkjnbgekaifdfaaGreat
open Go.ChangeShapes Go.WideShapes Go.ChangeAt Go.RowKit
def nsL (id F c0 c1 c2 c3 : Int) : List Int := [id, F, c0, c1, c2, c3]
def b16 (m : Int) : List Int := [m / 256, m % 256]
def b16s (l : List Int) : List Int := l.flatMap b16
def okN (m : Int) : Prop := 0 <= m /\ m <= 65535
theorem b16s_len (l : List Int) : (b16s l).length = 2 * l.length := by
 induction l with
 | nil => rfl
 | cons x r ih => simp only [b16s, List.flatMap_cons, List.length_append, List.length_cons] at ih ⊢; rw [ih]; simp [b16]; omega
theorem b16s_take (l : List Int) (k : Nat) (m : Int) (h : l[k]? = some m) : b16s (l.take (k + 1)) = b16s (l.take k) ++ [m / 256, m % 256] := by
 rw [List.take_add_one, h]
 simp [b16s, b16]
theorem ixN (id F c0 c1 c2 c3 : Int) (k : Nat) (hk : k < 6) : ∃ m, (nsL id F c0 c1 c2 c3)[k]? = some m /\ ∀ w : World, (Instr.index 114 (.agg #[.int .i64 id, .int .i64 F, .int .i64 c0, .int .i64 c1, .int .i64 c2, .int .i64 c3]) (.int .i64 (k : Int))).run Tryz.prog w = .ok (.int .i64 m) w := by
 match k, hk with
 | 0, _ => exact ⟨id, rfl, fun w => by kernel_rfl⟩
 | 1, _ => exact ⟨F, rfl, fun w => by kernel_rfl⟩
 | 2, _ => exact ⟨c0, rfl, fun w => by kernel_rfl⟩
 | 3, _ => exact ⟨c1, rfl, fun w => by kernel_rfl⟩
 | 4, _ => exact ⟨c2, rfl, fun w => by kernel_rfl⟩
 | 5, _ => exact ⟨c3, rfl, fun w => by kernel_rfl⟩
 | k + 6, h => omega
theorem make12 (w : World) : (Instr.makeSlice 29 (.int .i64 0) (.int .i64 12)).run Tryz.prog w = .ok (.slice (some ⟨w.heap.size, 0, none⟩) 0 12) (w.alloc (.cells #[.int .u8 0, .int .u8 0, .int .u8 0, .int .u8 0, .int .u8 0, .int .u8 0, .int .u8 0, .int .u8 0, .int .u8 0, .int .u8 0, .int .u8 0, .int .u8 0] 5)) := by kernel_rfl
theorem alloc_at (w : World) (o : Obj) : (w.alloc o).heap[w.heap.size]? = some o := by
 show (w.heap.push o)[w.heap.size]? = some o
 simp
theorem make12_own (w : World) (B : Nat) (hB : B <= w.heap.size) : Own B (w.alloc (.cells #[.int .u8 0, .int .u8 0, .int .u8 0, .int .u8 0, .int .u8 0, .int .u8 0, .int .u8 0, .int .u8 0, .int .u8 0, .int .u8 0, .int .u8 0, .int .u8 0] 5)) (.slice (some ⟨w.heap.size, 0, none⟩) 0 12) 0 (List.replicate 12 0) := by
 refine .inr ⟨w.heap.size, rfl, hB, ⟨?_, ?_⟩, by simp, by simp [maxLen]⟩
 · rw [alloc_at]; rfl
 · intro z hz; rw [List.mem_replicate] at hz; obtain ⟨_, rfl⟩ := hz; omega
theorem two_rd (w : World) (m : Int) (h : okN m) : Rd (w.alloc (.cells #[.int .u8 (m / 256), .int .u8 (m % 256)] 5)) (some ⟨w.heap.size, 0, none⟩) [m / 256, m % 256] := by
 have hb : Blk (w.alloc (.cells #[.int .u8 (m / 256), .int .u8 (m % 256)] 5)) w.heap.size [m / 256, m % 256] := ⟨alloc_at _ _, by
   intro z hz
   simp only [List.mem_cons, List.not_mem_nil, or_false] at hz
   obtain ⟨h0, h1⟩ := h
   rcases hz with rfl | rfl <;> omega⟩
 exact hb.rd 2
def BtPost (w : World) (ns : List Int) (e : Ending) (w' : World) : Prop :=
 ((∀ m ∈ ns, okN m) -> ∃ g, e = .returned (.tuple #[.slice (some ⟨g, 0, none⟩) 12 12, .int .i64 0]) /\ w.heap.size <= g /\ Blk w' g (b16s ns)) /\
 ((¬ ∀ m ∈ ns, okN m) -> e = .returned (.tuple #[.slice none 0 0, .int .i64 2])) /\ Below w.heap.size w w'
set_option maxHeartbeats 1000000 in
theorem bytes10_arg (id : Int) (rs : Bool) (op : Int) (aa tc rd ra ad cd : Bool) (rc : Int) (a1 a2 a3 a4 : Option Addr) (n1 n2 n3 n4 k1 k2 k3 k4 : Nat) (c0 c1 c2 c3 : Int) (w : World)
   (h : ¬ (0 <= op /\ op <= 15 /\ 0 <= rc /\ rc <= 15)) :
   Calls Tryz.prog 41 #[.agg #[.int .u16 id, .bool rs, .int .i64 op, .bool aa, .bool tc, .bool rd, .bool ra, .bool ad, .bool cd, .int .i64 rc, .slice a1 n1 k1, .slice a2 n2 k2, .slice a3 n3 k3, .slice a4 n4 k4], .agg #[.int .i64 c0, .int .i64 c1, .int .i64 c2, .int .i64 c3]] w fun e w' => e = .returned (.tuple #[.slice none 0 0, .int .i64 2]) /\ Below w.heap.size w w' := by
 have H : Hid (op < 0 ∨ (0 <= op /\ 15 < op) ∨ (0 <= op /\ op <= 15 /\ rc < 0) ∨ (0 <= op /\ op <= 15 /\ 0 <= rc /\ 15 < rc)) := by show _ ∨ _; omega
 clear h
 go_enter Tryz.func41, Tryz.ntmps41
 go_wp2_with fail
 refine (pack_no id rs op aa tc rd ra ad cd rc a1 a2 a3 a4 n1 n2 n3 n4 k1 k2 k3 k4 _ H.out).mono ?_
 rintro e w1 ⟨rfl, hb1⟩
 go_wp2
 go_ret2
 exact ⟨rfl, (((Below.refl _ _).alloc (Nat.le_refl _) _).alloc (by simp) _).trans (hb1.mono (by simp; omega))⟩
set_option maxHeartbeats 1000000 in
theorem bytes10 (id : Nat) (rs : Bool) (op : Nat) (aa tc rd ra ad cd : Bool) (rc : Nat) (a1 a2 a3 a4 : Option Addr) (n1 n2 n3 n4 k1 k2 k3 k4 : Nat) (c0 c1 c2 c3 : Int) (w : World)
   (hi : id < 65536) (ho : op < 16) (hr : rc < 16) :
   Calls Tryz.prog 41 #[.agg #[.int .u16 (id : Int), .bool rs, .int .i64 (op : Int), .bool aa, .bool tc, .bool rd, .bool ra, .bool ad, .bool cd, .int .i64 (rc : Int), .slice a1 n1 k1, .slice a2 n2 k2, .slice a3 n3 k3, .slice a4 n4 k4], .agg #[.int .i64 c0, .int .i64 c1, .int .i64 c2, .int .i64 c3]] w fun e w' => BtPost w (nsL id (packN op rc rs aa tc rd ra ad cd : Nat) c0 c1 c2 c3) e w' := by
 have hP := packN_lt ho hr rs aa tc rd ra ad cd
 have KP := fun w' => pack_ok id rs op aa tc rd ra ad cd rc a1 a2 a3 a4 n1 n2 n3 n4 k1 k2 k3 k4 w' ho hr
 generalize packN op rc rs aa tc rd ra ad cd = F at *
 obtain ⟨ns, hns⟩ : ∃ ns, ns = nsL id F c0 c1 c2 c3 := ⟨_, rfl⟩
 have IX := fun k hk => ixN id F c0 c1 c2 c3 k hk
 rw [<- hns] at IX ⊢
 have HNL : Hid (ns.length = 6) := by rw [hns]; rfl
 clear hns
 have KP' : ∀ w', Hid (Calls Tryz.prog 68 _ w' _) := KP
 clear KP
 have hmk := make12
 go_enter Tryz.func41, Tryz.ntmps41
 go_wp2_with fail
 refine (KP' _).out.mono ?_
 rintro e w1 ⟨rfl, hb1⟩
 have HB1 : Hid (Below w.heap.size w w1 /\ w.heap.size + 1 + 1 <= w1.heap.size) := ⟨(((Below.refl _ _).alloc (Nat.le_refl _) _).alloc (by simp) _).trans (hb1.mono (by simp; omega)), by have := hb1.size; simpa using this⟩
 have hlt : w.heap.size < w1.heap.size := by have := HB1.out.2; omega
 have hlt2 : w.heap.size + 1 < w1.heap.size := by have := HB1.out.2; omega
 have m0 : w1.cell? ⟨w.heap.size, 0, none⟩ = some (.int .u16 id) := (hb1.cell (p := ⟨w.heap.size, 0, none⟩) (by simp; omega)).trans (by simp)
 have g0 : w1.cell? ⟨w.heap.size + 1, 0, none⟩ = some (.int .i64 c0) := (hb1.cell (p := ⟨w.heap.size + 1, 0, none⟩) (by simp)).trans (by simp)
 have g1 : w1.cell? ⟨w.heap.size + 1, 1, none⟩ = some (.int .i64 c1) := (hb1.cell (p := ⟨w.heap.size + 1, 1, none⟩) (by simp)).trans (by simp)
 have g2 : w1.cell? ⟨w.heap.size + 1, 2, none⟩ = some (.int .i64 c2) := (hb1.cell (p := ⟨w.heap.size + 1, 2, none⟩) (by simp)).trans (by simp)
 have g3 : w1.cell? ⟨w.heap.size + 1, 3, none⟩ = some (.int .i64 c3) := (hb1.cell (p := ⟨w.heap.size + 1, 3, none⟩) (by simp)).trans (by simp)
 clear hb1
 go_wp2_with fail
 refine (together_any id F c0 c1 c2 c3 _).mono ?_
 rintro e w2 ⟨rfl, hb2⟩
 have HS2 : Hid (Own w1.heap.size w2 (.slice (some ⟨w1.heap.size, 0, none⟩) 0 12) 0 (List.replicate 12 0) /\ Below w.heap.size w w2 /\ w.heap.size <= w1.heap.size /\ w1.heap.size <= w2.heap.size) := ⟨(make12_own w1 _ (Nat.le_refl _)).below hb2, (HB1.out.1.alloc HB1.out.1.size _).trans (hb2.mono (by have := HB1.out.1.size; simp; omega)), HB1.out.1.size, by have := hb2.size; simp at this; omega⟩
 clear hb2 m0 g0 g1 g2 g3
 go_wp2_with fail
 go_loopw [8, 28] (fun v y wr => ∃ k : Nat, k <= 6 /\ y = .int .i64 (k : Int) /\ Hid (∃ zs, Own w1.heap.size wr v (2 * k) zs /\ zs.length = 12 /\ zs.take (2 * k) = b16s (ns.take k)) /\ Hid (∀ m ∈ ns.take k, okN m) /\ Hid (Below w.heap.size w wr /\ w1.heap.size <= wr.heap.size)) (fun _ y _ => 6 - (intOf y).toNat)
 case atStart => exact ⟨0, by omega, rfl, ⟨_, HS2.out.1, by simp, rfl⟩, by intro m hm; simp at hm, HS2.out.2.1, HS2.out.2.2.2⟩
 case round =>
   obtain ⟨k, hk, rfl, HO, HK, HW⟩ := hrel
   by_cases hlt : k < 6
   · have hlt' : (k : Int) < 6 := by omega
     obtain ⟨m, hm, ix⟩ := IX k hlt
     have HM : Hid (ns[k]? = some m) := hm
     clear hm
     by_cases hok : okN m
     · obtain ⟨zs, hO, hZ, hT⟩ := HO.out
       have hnb : Below wr.heap.size wr (wr.alloc (.cells #[.int .u8 (m / 256), .int .u8 (m % 256)] 5)) := (Below.refl _ _).alloc (Nat.le_refl _) _
       have HO2 : Hid (Own w1.heap.size (wr.alloc (.cells #[.int .u8 (m / 256), .int .u8 (m % 256)] 5)) u8 (2 * k) zs) := hO.below hnb
       have HR2 : Hid (Rd (wr.alloc (.cells #[.int .u8 (m / 256), .int .u8 (m % 256)] 5)) (some ⟨wr.heap.size, 0, none⟩) [m / 256, m % 256]) := two_rd wr m hok
       have HB2 : Hid (Below w.heap.size w (wr.alloc (.cells #[.int .u8 (m / 256), .int .u8 (m % 256)] 5)) /\ w1.heap.size <= (wr.alloc (.cells #[.int .u8 (m / 256), .int .u8 (m % 256)] 5)).heap.size) := ⟨HW.out.1.trans (hnb.mono HW.out.1.size), by have := HW.out.2; simp; omega⟩
       have HT : Hid (zs.length = 12 /\ zs.take (2 * k) = b16s (ns.take k)) := ⟨hZ, hT⟩
       have HKK : Hid (okN m) := hok
       have h0 := hok.1
       have h1 := hok.2
       clear hO hZ hT hok hnb
       go_wp2_with fail
       refine (put16_yes m _ h0 h1).mono ?_
       rintro e w3 ⟨rfl, rfl⟩
       go_wp2_with (at_builtin; refine wpList_append_fitB _ rfl _ _ rfl w1.heap.size _ (2 * k) zs rfl HO2.out (some ⟨wr.heap.size, 0, none⟩) 2 2 [m / 256, m % 256] rfl HR2.out rfl (by omega) HB2.out.2 ?_; intro v' w' ys' hO' hT' hG' hF'; have HB3 : Hid (Below w.heap.size w w' /\ w1.heap.size <= w'.heap.size) := ⟨HB2.out.1.grown hG' HB2.out.1.size (fun g hg => Nat.le_trans HS2.out.2.2.1 (HO2.out.lt g hg)), Nat.le_trans HB2.out.2 hG'.size⟩; clear hG')
       refine ⟨⟨k + 1, by omega, by go_num, ⟨ys', ?_, ?_, ?_⟩, ?_, HB3.out⟩, by simp [intOf]; omega⟩
       · have := hO'.out
         rw [show 2 * (k + 1) = 2 * k + 2 by omega]; exact this
       · rw [hF'.out (by rw [HT.out.1]; omega), HT.out.1]
       · rw [b16s_take ns k m HM.out, <- HT.out.2, <- hT'.out]; rfl
       · intro x hx
         rw [List.take_add_one, HM.out] at hx
         rcases List.mem_append.1 hx with hx | hx
         · exact HK.out x hx
         · simp at hx; subst hx; exact HKK.out
     · have HNK : Hid (¬ ∀ x ∈ ns, okN x) := fun h => hok (h m (List.mem_of_getElem? HM.out))
       have hno : m < 0 ∨ (0 <= m /\ 65535 < m) := by unfold okN at hok; omega
       have HNO : Hid (m < 0 ∨ (0 <= m /\ 65535 < m)) := hno
       clear hno hok
       go_wp2_with fail
       refine (put16_no m _ HNO.out).mono ?_
       rintro e w3 ⟨rfl, rfl⟩
       go_wp2
       go_ret2
       exact ⟨fun h => absurd h HNK.out, fun _ => rfl, HW.out.1⟩
   · obtain rfl : k = 6 := by omega
     obtain ⟨zs, hO, hZ, hT⟩ := HO.out
     have e6 : ns.take 6 = ns := List.take_of_length_le (by rw [HNL.out]; exact Nat.le_refl _)
     rw [e6] at hT
     have HK6 : Hid (∀ x ∈ ns, okN x) := by have := HK.out; rw [e6] at this; exact this
     have hz : zs = b16s ns := by rw [<- hT]; exact (List.take_of_length_le (by rw [hZ]; exact Nat.le_refl _)).symm
     subst hz
     rcases hO with ⟨_, h, _⟩ | ⟨g, hv, hg, hblk, _, _⟩
     · omega
     · rw [hZ] at hv
       subst hv
       have HG : Hid (w.heap.size <= g /\ Blk wr g (b16s ns)) := ⟨Nat.le_trans HS2.out.2.2.1 hg, hblk⟩
       clear hblk hg hT e6 hZ
       go_wp2
       go_ret2
       exact ⟨fun _ => ⟨g, rfl, HG.out.1, HG.out.2⟩, fun h => absurd HK6.out h, HW.out.1⟩
end Go.Proofs.YtkjnbgekaifdfaaGreat
namespace Go.Proofs.YtkjnbgekaifdfaaGreat
open Go.ChangeShapes Go.WideShapes Go.ChangeAt Go.RowKit
theorem nat_and_bit (n k : Nat) : n &&& 2 ^ k = (unfl n (2 ^ k)).toNat * 2 ^ k := by
 have e : unfl n (2 ^ k) = n.testBit k := by
   rw [Nat.testBit_eq_decide_div_mod_eq]; unfold unfl
   rcases Nat.mod_two_eq_zero_or_one (n / 2 ^ k) with h | h <;> simp [h]
 rw [e]
 apply Nat.eq_of_testBit_eq
 intro i
 rw [Nat.testBit_and, Nat.testBit_two_pow]
 by_cases hik : k = i
 · subst hik
   cases h : n.testBit k <;> simp [Nat.testBit_two_pow]
 · cases h : n.testBit k <;> simp [Nat.testBit_two_pow, hik]
theorem and_bit (n k : Nat) (hn : n < 65536) (hk : 2 ^ k < 65536) : bits .and .i64 (n : Int) ((2 ^ k : Nat) : Int) = (((unfl n (2 ^ k)).toNat * 2 ^ k : Nat) : Int) := by
 rw [i64_and_nat _ _ hn hk, nat_and_bit]
theorem and_ne (n k : Nat) (hn : n < 65536) (hk : 2 ^ k < 65536) : (bits .and .i64 (n : Int) ((2 ^ k : Nat) : Int) != 0) = unfl n (2 ^ k) := by
 rw [and_bit n k hn hk]
 have hp : 0 < 2 ^ k := Nat.two_pow_pos k
 cases unfl n (2 ^ k)
 · simp
 · simp only [Bool.toNat_true, Nat.one_mul, bne_iff_ne, ne_eq]
   omega
theorem and_15 (n : Nat) (hn : n < 65536) : bits .and .i64 (n : Int) 15 = ((n % 16 : Nat) : Int) := by
 have := i64_and_nat n 15 hn (by omega)
 rw [show ((15 : Nat) : Int) = 15 from rfl] at this
 rw [this, show 15 = 2 ^ 4 - 1 from rfl, Nat.and_two_pow_sub_one_eq_mod]
def boxU (n k : Nat) : Array Value := #[.int .u16 0, .bool (decide (0 < k) && unfl n 32768), .int .i64 (unop n : Nat), .bool (decide (1 < k) && unfl n 1024), .bool (decide (2 < k) && unfl n 512), .bool (decide (3 < k) && unfl n 256), .bool (decide (4 < k) && unfl n 128), .bool (decide (5 < k) && unfl n 32), .bool (decide (6 < k) && unfl n 16), .int .i64 (unrc n : Nat), .slice none 0 0, .slice none 0 0, .slice none 0 0, .slice none 0 0]
theorem box_step0 (n : Nat) : (boxU n 0).setIfInBounds 1 (.bool (unfl n 32768)) = boxU n (0 + 1) := by simp [boxU]
theorem box_step1 (n : Nat) : (boxU n 1).setIfInBounds 3 (.bool (unfl n 1024)) = boxU n (1 + 1) := by simp [boxU]
theorem box_step2 (n : Nat) : (boxU n 2).setIfInBounds 4 (.bool (unfl n 512)) = boxU n (2 + 1) := by simp [boxU]
theorem box_step3 (n : Nat) : (boxU n 3).setIfInBounds 5 (.bool (unfl n 256)) = boxU n (3 + 1) := by simp [boxU]
theorem box_step4 (n : Nat) : (boxU n 4).setIfInBounds 6 (.bool (unfl n 128)) = boxU n (4 + 1) := by simp [boxU]
theorem box_step5 (n : Nat) : (boxU n 5).setIfInBounds 7 (.bool (unfl n 32)) = boxU n (5 + 1) := by simp [boxU]
theorem box_step6 (n : Nat) : (boxU n 6).setIfInBounds 8 (.bool (unfl n 16)) = boxU n (6 + 1) := by simp [boxU]
theorem upd_block {W : World} {b i : Nat} {cs : Array Value} {ty : TypeId} (h : W.heap[b]? = some (.cells cs ty)) (v : Value) : (W.setCell ⟨b, i, none⟩ v).heap[b]? = some (.cells (cs.setIfInBounds i v) ty) := by
 simp [World.setCell, Array.getElem?_modify, h]
theorem block_lt {W : World} {b : Nat} {o : Obj} (h : W.heap[b]? = some o) : b < W.heap.size := by
 rcases Nat.lt_or_ge b W.heap.size with h1 | h1
 · exact h1
 · rw [Array.getElem?_eq_none h1] at h; cases h
theorem block_alloc {W : World} {b : Nat} {o : Obj} (h : W.heap[b]? = some o) (x : Obj) : (W.alloc x).heap[b]? = some o := (Below.heap_alloc W x b (block_lt h)).trans h
set_option maxHeartbeats 1000000 in
theorem unpack_no (n : Nat) (w : World) (hn : n < 65536) (h6 : unfl n 64 = true) :
   Calls Tryz.prog 112 #[.int .i64 (n : Int)] w fun e w' => e = .returned (.tuple #[.agg #[.int .u16 0, .bool false, .int .i64 0, .bool false, .bool false, .bool false, .bool false, .bool false, .bool false, .int .i64 0, .slice none 0 0, .slice none 0 0, .slice none 0 0, .slice none 0 0], .int .i64 8]) /\ Below w.heap.size w w' := by
 have h := and_ne n 6 hn (by decide)
 rw [show ((2 ^ 6 : Nat) : Int) = 64 from rfl, show 2 ^ 6 = 64 from rfl, h6] at h
 go_enter Tryz.func112, Tryz.ntmps112
 go_wp2
 refine bodyPost_ret (v := .tuple #[.agg #[.int .u16 0, .bool false, .int .i64 0, .bool false, .bool false, .bool false, .bool false, .bool false, .bool false, .int .i64 0, .slice none 0 0, .slice none 0 0, .slice none 0 0, .slice none 0 0], .int .i64 8]) ?_ rfl ⟨rfl, ?_⟩
 · simp [results, Tryz.results112, go_sem]
 · exact (Below.refl _ _).alloc (Nat.le_refl _) _
set_option maxHeartbeats 2000000 in
theorem unpack_ok (n : Nat) (w : World) (hn : n < 65536) (h6 : unfl n 64 = false) :
   Calls Tryz.prog 112 #[.int .i64 (n : Int)] w fun e w' => e = .returned (.tuple #[.agg (boxU n 7), .int .i64 0]) /\ Below w.heap.size w w' := by
 have h := and_ne n 6 hn (by decide)
 rw [show ((2 ^ 6 : Nat) : Int) = 64 from rfl, show 2 ^ 6 = 64 from rfl, h6] at h
 have hop : bits .and .i64 ((n : Int) / 2048) 15 = (unop n : Nat) := by
   have := and_15 (n / 2048) (by omega)
   unfold unop
   rw [<- this]
   rfl
 have hrc : bits .and .i64 (n : Int) 15 = (unrc n : Nat) := and_15 n hn
 have B0 : Hid ((bits .and .i64 (n : Int) 32768 != 0) = unfl n 32768) := and_ne n 15 hn (by decide)
 have B1 : Hid ((bits .and .i64 (n : Int) 1024 != 0) = unfl n 1024) := and_ne n 10 hn (by decide)
 have B2 : Hid ((bits .and .i64 (n : Int) 512 != 0) = unfl n 512) := and_ne n 9 hn (by decide)
 have B3 : Hid ((bits .and .i64 (n : Int) 256 != 0) = unfl n 256) := and_ne n 8 hn (by decide)
 have B4 : Hid ((bits .and .i64 (n : Int) 128 != 0) = unfl n 128) := and_ne n 7 hn (by decide)
 have B5 : Hid ((bits .and .i64 (n : Int) 32 != 0) = unfl n 32) := and_ne n 5 hn (by decide)
 have B6 : Hid ((bits .and .i64 (n : Int) 16 != 0) = unfl n 16) := and_ne n 4 hn (by decide)
 go_enter Tryz.func112, Tryz.ntmps112
 go_wp2_with fail
 refine (flags40 _ _).mono ?_
 rintro e w1 ⟨rfl, hb1⟩
 have HB : Hid (Below w.heap.size w w1) := (((Below.refl _ _).alloc (Nat.le_refl _) _).alloc (by simp) _).trans (hb1.mono (by simp; omega))
 have HX : Hid (w1.heap[w.heap.size + 1]? = some (.cells (boxU n 0) 26)) := by
   refine (hb1.block (w.heap.size + 1) (by simp)).trans ?_
   have := alloc_at (w.alloc (.cells #[.int .u16 0, .bool false, .int .i64 0, .bool false, .bool false, .bool false, .bool false, .bool false, .bool false, .int .i64 0, .slice none 0 0, .slice none 0 0, .slice none 0 0, .slice none 0 0] 26)) (.cells (boxU n 0) 26)
   simp only [World.size_alloc] at this
   exact this
 have HZ : Hid (w1.heap[w.heap.size]? = some (.cells #[.int .u16 0, .bool false, .int .i64 0, .bool false, .bool false, .bool false, .bool false, .bool false, .bool false, .int .i64 0, .slice none 0 0, .slice none 0 0, .slice none 0 0, .slice none 0 0] 26)) := by
   refine (hb1.block w.heap.size (by simp; omega)).trans ?_
   exact block_alloc (alloc_at _ _) _
 clear hb1
 go_wp2_with fail
 go_loopw [18] (fun y wr => ∃ k : Nat, k <= 7 /\ y = .int .i64 (k : Int) /\ Hid (wr.heap[w.heap.size + 1]? = some (.cells (boxU n k) 26)) /\ Hid (wr.heap[w.heap.size]? = some (.cells #[.int .u16 0, .bool false, .int .i64 0, .bool false, .bool false, .bool false, .bool false, .bool false, .bool false, .int .i64 0, .slice none 0 0, .slice none 0 0, .slice none 0 0, .slice none 0 0] 26)) /\ Hid (Below w.heap.size w wr)) (fun y _ => 7 - (intOf y).toNat)
 case atStart => exact ⟨0, by omega, rfl, HX, HZ, HB⟩
 case round =>
   obtain ⟨k, hk, rfl, HX', HZ', HW⟩ := hrel
   have hlt1 : w.heap.size + 1 < wr.heap.size := block_lt HX'.out
   have hlt0 : w.heap.size < wr.heap.size := by omega
   by_cases hlt : k < 7
   · have hlt' : (k : Int) < 7 := by omega
     rcases Nat.lt_or_ge k 1 with hk' | hk'
     · obtain rfl : k = 0 := by omega
       have ix := ix0 (w.heap.size + 1)
       have cc : wr.cell? ⟨w.heap.size + 1, 1, none⟩ = some (.bool false) := cell_of_block HX'.out rfl
       have ff := frozen_of_block (i := 1) HX'.out
       have bb := B0.out
       go_wp2
       go_round
       case rel =>
         refine ⟨0 + 1, by omega, by go_num, ?_, ?_, ?_⟩
         · exact (block_alloc (upd_block HX'.out _) _).trans (by rw [box_step0])
         · exact block_alloc ((Below.heap_setCell wr _ _ _ (by simp)).trans HZ'.out) _
         · exact (HW.out.setCell (p := ⟨_, _, none⟩) (by simp) _).alloc (by simp; omega) _
       case measure => simp [intOf]
     rcases Nat.lt_or_ge k 2 with hk' | hk'
     · obtain rfl : k = 1 := by omega
       have ix := ix1 (w.heap.size + 1)
       have cc : wr.cell? ⟨w.heap.size + 1, 3, none⟩ = some (.bool false) := cell_of_block HX'.out rfl
       have ff := frozen_of_block (i := 3) HX'.out
       have bb := B1.out
       go_wp2
       go_round
       case rel =>
         refine ⟨1 + 1, by omega, by go_num, ?_, ?_, ?_⟩
         · exact (block_alloc (upd_block HX'.out _) _).trans (by rw [box_step1])
         · exact block_alloc ((Below.heap_setCell wr _ _ _ (by simp)).trans HZ'.out) _
         · exact (HW.out.setCell (p := ⟨_, _, none⟩) (by simp) _).alloc (by simp; omega) _
       case measure => simp [intOf]
     rcases Nat.lt_or_ge k 3 with hk' | hk'
     · obtain rfl : k = 2 := by omega
       have ix := ix2 (w.heap.size + 1)
       have cc : wr.cell? ⟨w.heap.size + 1, 4, none⟩ = some (.bool false) := cell_of_block HX'.out rfl
       have ff := frozen_of_block (i := 4) HX'.out
       have bb := B2.out
       go_wp2
       go_round
       case rel =>
         refine ⟨2 + 1, by omega, by go_num, ?_, ?_, ?_⟩
         · exact (block_alloc (upd_block HX'.out _) _).trans (by rw [box_step2])
         · exact block_alloc ((Below.heap_setCell wr _ _ _ (by simp)).trans HZ'.out) _
         · exact (HW.out.setCell (p := ⟨_, _, none⟩) (by simp) _).alloc (by simp; omega) _
       case measure => simp [intOf]
     rcases Nat.lt_or_ge k 4 with hk' | hk'
     · obtain rfl : k = 3 := by omega
       have ix := ix3 (w.heap.size + 1)
       have cc : wr.cell? ⟨w.heap.size + 1, 5, none⟩ = some (.bool false) := cell_of_block HX'.out rfl
       have ff := frozen_of_block (i := 5) HX'.out
       have bb := B3.out
       go_wp2
       go_round
       case rel =>
         refine ⟨3 + 1, by omega, by go_num, ?_, ?_, ?_⟩
         · exact (block_alloc (upd_block HX'.out _) _).trans (by rw [box_step3])
         · exact block_alloc ((Below.heap_setCell wr _ _ _ (by simp)).trans HZ'.out) _
         · exact (HW.out.setCell (p := ⟨_, _, none⟩) (by simp) _).alloc (by simp; omega) _
       case measure => simp [intOf]
     rcases Nat.lt_or_ge k 5 with hk' | hk'
     · obtain rfl : k = 4 := by omega
       have ix := ix4 (w.heap.size + 1)
       have cc : wr.cell? ⟨w.heap.size + 1, 6, none⟩ = some (.bool false) := cell_of_block HX'.out rfl
       have ff := frozen_of_block (i := 6) HX'.out
       have bb := B4.out
       go_wp2
       go_round
       case rel =>
         refine ⟨4 + 1, by omega, by go_num, ?_, ?_, ?_⟩
         · exact (block_alloc (upd_block HX'.out _) _).trans (by rw [box_step4])
         · exact block_alloc ((Below.heap_setCell wr _ _ _ (by simp)).trans HZ'.out) _
         · exact (HW.out.setCell (p := ⟨_, _, none⟩) (by simp) _).alloc (by simp; omega) _
       case measure => simp [intOf]
     rcases Nat.lt_or_ge k 6 with hk' | hk'
     · obtain rfl : k = 5 := by omega
       have ix := ix5 (w.heap.size + 1)
       have cc : wr.cell? ⟨w.heap.size + 1, 7, none⟩ = some (.bool false) := cell_of_block HX'.out rfl
       have ff := frozen_of_block (i := 7) HX'.out
       have bb := B5.out
       go_wp2
       go_round
       case rel =>
         refine ⟨5 + 1, by omega, by go_num, ?_, ?_, ?_⟩
         · exact (block_alloc (upd_block HX'.out _) _).trans (by rw [box_step5])
         · exact block_alloc ((Below.heap_setCell wr _ _ _ (by simp)).trans HZ'.out) _
         · exact (HW.out.setCell (p := ⟨_, _, none⟩) (by simp) _).alloc (by simp; omega) _
       case measure => simp [intOf]
     rcases Nat.lt_or_ge k 7 with hk' | hk'
     · obtain rfl : k = 6 := by omega
       have ix := ix6 (w.heap.size + 1)
       have cc : wr.cell? ⟨w.heap.size + 1, 8, none⟩ = some (.bool false) := cell_of_block HX'.out rfl
       have ff := frozen_of_block (i := 8) HX'.out
       have bb := B6.out
       go_wp2
       go_round
       case rel =>
         refine ⟨6 + 1, by omega, by go_num, ?_, ?_, ?_⟩
         · exact (block_alloc (upd_block HX'.out _) _).trans (by rw [box_step6])
         · exact block_alloc ((Below.heap_setCell wr _ _ _ (by simp)).trans HZ'.out) _
         · exact (HW.out.setCell (p := ⟨_, _, none⟩) (by simp) _).alloc (by simp; omega) _
       case measure => simp [intOf]
     · omega
   · obtain rfl : k = 7 := by omega
     have x0 : wr.cell? ⟨w.heap.size + 1, 0, none⟩ = some (.int .u16 0) := cell_of_block HX'.out rfl
     have x1 : wr.cell? ⟨w.heap.size + 1, 1, none⟩ = some (.bool (unfl n 32768)) := cell_of_block HX'.out rfl
     have x2 : wr.cell? ⟨w.heap.size + 1, 2, none⟩ = some (.int .i64 (unop n : Nat)) := cell_of_block HX'.out rfl
     have x3 : wr.cell? ⟨w.heap.size + 1, 3, none⟩ = some (.bool (unfl n 1024)) := cell_of_block HX'.out rfl
     have x4 : wr.cell? ⟨w.heap.size + 1, 4, none⟩ = some (.bool (unfl n 512)) := cell_of_block HX'.out rfl
     have x5 : wr.cell? ⟨w.heap.size + 1, 5, none⟩ = some (.bool (unfl n 256)) := cell_of_block HX'.out rfl
     have x6 : wr.cell? ⟨w.heap.size + 1, 6, none⟩ = some (.bool (unfl n 128)) := cell_of_block HX'.out rfl
     have x7 : wr.cell? ⟨w.heap.size + 1, 7, none⟩ = some (.bool (unfl n 32)) := cell_of_block HX'.out rfl
     have x8 : wr.cell? ⟨w.heap.size + 1, 8, none⟩ = some (.bool (unfl n 16)) := cell_of_block HX'.out rfl
     have x9 : wr.cell? ⟨w.heap.size + 1, 9, none⟩ = some (.int .i64 (unrc n : Nat)) := cell_of_block HX'.out rfl
     have x10 : wr.cell? ⟨w.heap.size + 1, 10, none⟩ = some (.slice none 0 0) := cell_of_block HX'.out rfl
     have x11 : wr.cell? ⟨w.heap.size + 1, 11, none⟩ = some (.slice none 0 0) := cell_of_block HX'.out rfl
     have x12 : wr.cell? ⟨w.heap.size + 1, 12, none⟩ = some (.slice none 0 0) := cell_of_block HX'.out rfl
     have x13 : wr.cell? ⟨w.heap.size + 1, 13, none⟩ = some (.slice none 0 0) := cell_of_block HX'.out rfl
     have z0 : wr.cell? ⟨w.heap.size, 0, none⟩ = some (.int .u16 0) := cell_of_block HZ'.out rfl
     have f0 := frozen_of_block (i := 0) HZ'.out
     have z1 : wr.cell? ⟨w.heap.size, 1, none⟩ = some (.bool false) := cell_of_block HZ'.out rfl
     have f1 := frozen_of_block (i := 1) HZ'.out
     have z2 : wr.cell? ⟨w.heap.size, 2, none⟩ = some (.int .i64 0) := cell_of_block HZ'.out rfl
     have f2 := frozen_of_block (i := 2) HZ'.out
     have z3 : wr.cell? ⟨w.heap.size, 3, none⟩ = some (.bool false) := cell_of_block HZ'.out rfl
     have f3 := frozen_of_block (i := 3) HZ'.out
     have z4 : wr.cell? ⟨w.heap.size, 4, none⟩ = some (.bool false) := cell_of_block HZ'.out rfl
     have f4 := frozen_of_block (i := 4) HZ'.out
     have z5 : wr.cell? ⟨w.heap.size, 5, none⟩ = some (.bool false) := cell_of_block HZ'.out rfl
     have f5 := frozen_of_block (i := 5) HZ'.out
     have z6 : wr.cell? ⟨w.heap.size, 6, none⟩ = some (.bool false) := cell_of_block HZ'.out rfl
     have f6 := frozen_of_block (i := 6) HZ'.out
     have z7 : wr.cell? ⟨w.heap.size, 7, none⟩ = some (.bool false) := cell_of_block HZ'.out rfl
     have f7 := frozen_of_block (i := 7) HZ'.out
     have z8 : wr.cell? ⟨w.heap.size, 8, none⟩ = some (.bool false) := cell_of_block HZ'.out rfl
     have f8 := frozen_of_block (i := 8) HZ'.out
     have z9 : wr.cell? ⟨w.heap.size, 9, none⟩ = some (.int .i64 0) := cell_of_block HZ'.out rfl
     have f9 := frozen_of_block (i := 9) HZ'.out
     have z10 : wr.cell? ⟨w.heap.size, 10, none⟩ = some (.slice none 0 0) := cell_of_block HZ'.out rfl
     have f10 := frozen_of_block (i := 10) HZ'.out
     have z11 : wr.cell? ⟨w.heap.size, 11, none⟩ = some (.slice none 0 0) := cell_of_block HZ'.out rfl
     have f11 := frozen_of_block (i := 11) HZ'.out
     have z12 : wr.cell? ⟨w.heap.size, 12, none⟩ = some (.slice none 0 0) := cell_of_block HZ'.out rfl
     have f12 := frozen_of_block (i := 12) HZ'.out
     have z13 : wr.cell? ⟨w.heap.size, 13, none⟩ = some (.slice none 0 0) := cell_of_block HZ'.out rfl
     have f13 := frozen_of_block (i := 13) HZ'.out
     go_wp2
     refine bodyPost_ret (v := .tuple #[.agg #[.int .u16 0, .bool (unfl n 32768), .int .i64 (unop n : Nat), .bool (unfl n 1024), .bool (unfl n 512), .bool (unfl n 256), .bool (unfl n 128), .bool (unfl n 32), .bool (unfl n 16), .int .i64 (unrc n : Nat), .slice none 0 0, .slice none 0 0, .slice none 0 0, .slice none 0 0], .int .i64 0]) ?_ rfl ⟨rfl, ?_⟩
     · simp [results, Tryz.results112, go_sem, hlt0, z0, z1, z2, z3, z4, z5, z6, z7, z8, z9, z10, z11, z12, z13]
     · iterate 14 refine Below.setCell ?_ (by simp) _
       exact HW.out
end Go.Proofs.YtkjnbgekaifdfaaGreat
