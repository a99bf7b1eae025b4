/- Texts laid together, in parts: Pc Pd Pe Dor Kb Dm Lg Ha Hb Hc Hd He Nsw Hf Ff Oca Ocb. -/
import Derived.Test.YtjkljpdolhglcaaGreatDoorWkb
import Derived.Deep.QuietTactic
import Derived.BigQuiet
import Derived.Deep.RegionHeld3
import Derived.WalkSpells
import Derived.WalkKit
import Derived.ProofKit
import Derived.OpenShut
import Derived.ShutString
import Derived.ChangeOld
import Derived.Below
import Derived.JoinedCond
import Derived.Deep.Strs
import Derived.Deep.Slices
import Derived.Lib.SmallJoins
import Derived.Deep.CutBlock
import Derived.Lib.Bytealg
import Derived.LaidEqlPtr
set_option maxRecDepth 100000
set_option maxHeartbeats 8000000
set_option linter.unusedVariables false
set_option linter.unusedSimpArgs false
namespace Go.Proofs.YtjkljpdolhglcaaGreatDoor
open Go.ChangeShapes Go.WideShapes Go.ChangeAt Go.RowKit Go.Sort
theorem xsplit_len(c:Int)(l:List Int):∀p∈xsplit c l,p.length<=l.length:=by
 induction l with
 |nil=>intro p hp;simp[xsplit] at hp;subst hp;simp
 |cons x l ih=>
  intro p hp
  simp only[xsplit] at hp
  split at hp
  ·rcases List.mem_cons.1 hp with rfl|hp
   ·simp
   ·have:=ih p hp;simp;omega
  ·split at hp
   ·simp at hp;subst hp;simp
   ·next q qs hq=>
    rcases List.mem_cons.1 hp with rfl|hp
    ·have:=ih q (by rw[hq];simp);simp;omega
    ·have:=ih p (by rw[hq];simp[hp]);simp;omega
theorem xsplit_many(c:Int)(l:List Int):(xsplit c l).length<=l.length+1/\1<=(xsplit c l).length:=by
 induction l with
 |nil=>simp[xsplit]
 |cons x l ih=>
  simp only[xsplit]
  split
  ·simp;omega
  ·split
   ·simp
   ·next q qs hq=>rw[hq] at ih;simp at ih ⊢;omega
def SplitPost(c:UInt8)(s:ByteArray)(w:World)(e:Ending)(w':World):Prop:=
 ∃ps,e=.returned (.slice (some ⟨w.heap.size,0,none⟩) ps.length ps.length)/\ps.length<=s.size+1/\Hid (ps.map nums=xsplit c.toNat (nums s))/\Hid (RdT w' (some ⟨w.heap.size,0,none⟩) ps)/\Hid (Below w.heap.size w w')/\Hid (∀p∈ps,p.size<=s.size)
theorem split_any(c:UInt8)(s:ByteArray)(w:World)(hs:s.size<4294967281)(hE:LayE w):Calls Tryz.prog 203 #[.string s,.string ⟨#[c]⟩] w (SplitPost c s w):=by
 obtain ⟨_,_,_,m,hm⟩:=hE
 refine (Tryz.strings_Split s ⟨#[c]⟩ m w hs hm (show 1<=1 from Nat.le_refl _)).mono ?_
 rintro e w' ⟨rfl,rfl⟩
 have hx:(Lib.splitB ⟨#[c]⟩ 0 (Lib.countB s ⟨#[c]⟩) s).map nums=xsplit c.toNat (nums s):=split_b c s
 have hl:=splitB_len c s
 generalize Lib.splitB ⟨#[c]⟩ 0 (Lib.countB s ⟨#[c]⟩) s=ps at*
 refine ⟨ps,by rw[hl],?_,hx,?_,(Below.refl _ _).alloc (Nat.le_refl _) _,?_⟩
 ·have:=(xsplit_many c.toNat (nums s)).1
  rw[<- hx,List.length_map,nums_len] at this
  exact this
 ·have:=(show BlkV (w.alloc (.cells (tv ps).toArray 9)) w.heap.size 9 (tv ps) from heap_alloc_new _ _).rd (tv ps).length
  rw[List.take_length] at this
  exact this
 ·intro p hp
  have:=xsplit_len c.toNat (nums s) (nums p) (by rw[<- hx];exact List.mem_map_of_mem hp)
  rw[nums_len,nums_len] at this
  exact this
theorem mapM_snoc{α β:Type}(f:α->Option β)(l:List α)(ns:List β)(x:α)(h:l.mapM f=some ns):(l++[x]).mapM f=(f x).map (fun y=>ns++[y]):=by
 induction l generalizing ns with
 |nil=>
  simp at h;subst h
  simp[List.mapM_cons]
  cases f x <;> rfl
 |cons a l ih=>
  rw[List.mapM_cons] at h
  rw[List.cons_append,List.mapM_cons]
  cases ha:f a with
  |none=>rw[ha] at h;cases h
  |some b=>
   rw[ha] at h
   cases hl:l.mapM f with
   |none=>rw[hl] at h;cases h
   |some bs=>
    rw[hl] at h
    injection h with h
    subst h
    rw[ih bs hl]
    cases f x <;> rfl
theorem mapM_bad{α β:Type}(f:α->Option β)(l:List α)(x:α)(r:List α)(h:f x=none):(l++x::r).mapM f=none:=by
 induction l with
 |nil=>rw[List.nil_append,List.mapM_cons,h];rfl
 |cons a l ih=>
  rw[List.cons_append,List.mapM_cons,ih]
  cases f a <;> rfl
theorem take_cons(l:List ByteArray)(k:Nat)(h:k<l.length):l=l.take k++l[k]::l.drop (k+1):=by
 rw[<- List.drop_eq_getElem_cons h,List.take_append_drop]
def ByPost(o:Option (List Int))(w:World)(e:Ending)(w':World):Prop:=
 (∀out,o=some out->∃v ys,e=.returned (.tuple #[v,.bool true])/\Hid (Own w.heap.size w' v out.length ys/\ys.take out.length=out/\Below w.heap.size w w'))/\
 (o=none->e=.returned (.tuple #[.slice none 0 0,.bool false])/\Hid (Below w.heap.size w w'))
theorem new_rd2(w:World)(a b:Int)(ha:0<=a/\a<=255)(hb:0<=b/\b<=255):Rd (w.alloc (.cells #[.int .u8 a,.int .u8 b] 5)) (some ⟨w.heap.size,0,none⟩) [a,b]:=by
 refine ⟨.inr ⟨w.heap.size,0,rfl,by simp,fun i hi=>?_⟩,?_⟩
 ·unfold World.cell?
  rw[heap_alloc_new]
  match i,hi with
  |0,_=>rfl
  |1,_=>rfl
 ·intro z hz
  simp at hz
  rcases hz with rfl|rfl
  ·exact ha
  ·exact hb
theorem Own.mono{B B':Nat}{w:World}{v:Value}{n:Nat}{zs:List Int}(h:Own B w v n zs)(hB:B'<=B):Own B' w v n zs:=by
 rcases h with h|⟨g,h1,h2,h3⟩
 ·exact .inl h
 ·exact .inr ⟨g,h1,Nat.le_trans hB h2,h3⟩
theorem pairs_any(s:ByteArray)(w:World)(hs:s.size<4294967281)(hE:LayE w):Calls Tryz.prog 205 #[.string s] w (ByPost (xgrps (nums s)) w):=by
 have HE:Hid (LayE w):=hE
 clear hE
 by_cases h0:s.size=0
 ·have e:=ba_nil (s:=s) (List.length_eq_zero_iff.1 h0)
  subst e
  clear HE
  go_enter Tryz.func205,Tryz.ntmps205
  go_wp2_with fail
  go_ret2
  refine ⟨fun out h=>⟨_,[],rfl,?_⟩,fun h=>?_⟩
  ·have e:out=[]:=by
    have:xgrps (nums ⟨#[]⟩)=some []:=rfl
    rw[this] at h;injection h with h;exact h.symm
   subst e
   exact ⟨.inl ⟨rfl,rfl,rfl⟩,rfl,Below.refl _ _⟩
  ·have:xgrps (nums ⟨#[]⟩)=some []:=rfl
   rw[this] at h;cases h
 ·have hne:(s.toList == [])=false:=by
   rw[ByteArray.toList_eq]
   cases h:s.data.toList with
   |nil=>exact absurd (show s.size=0 by have:s.data.toList.length=s.size:=rfl;rw[h] at this;exact this.symm) h0
   |cons a l=>rfl
  have HG:Hid (xgrps (nums s)=((xsplit 58 (nums s)).mapM xgrp).map fun ns=>ns.flatMap xby):=by
   show _=_
   unfold xgrps
   rw[if_neg]
   intro e
   have:=nums_len s
   rw[e] at this
   exact h0 this.symm
  go_enter Tryz.func205,Tryz.ntmps205
  go_wp2_with fail
  refine (split_any 58 s w hs HE.out).mono ?_
  rintro e w1 ⟨ps,rfl,hpl,HX,HR,HB,HZ⟩
  have HG2:Hid (xgrps (nums s)=((ps.map nums).mapM xgrp).map fun ns=>ns.flatMap xby):=by rw[HX.out];exact HG.out
  clear HG HX
  go_wp2_with fail
  go_loopw [4,14] (fun v x wr=>∃(k:Nat) (ns:List Nat),k<=ps.length/\x=.int .i64 k/\Hid (((ps.take k).map nums).mapM xgrp=some ns/\ns.length=k)/\Hid (∃ys,Own w1.heap.size wr v (2*k) ys/\ys.take (2*k)=ns.flatMap xby)/\Hid (Below w1.heap.size w1 wr)) (fun _ x _=>ps.length - (intOf x).toNat)
  case atStart=>exact ⟨0,[],Nat.zero_le _,rfl,⟨rfl,rfl⟩,⟨[],.inl ⟨rfl,rfl,rfl⟩,rfl⟩,Below.refl _ _⟩
  case round=>
   obtain ⟨k,ns,hk,rfl,HN,HW,HB2⟩:=hrel
   by_cases hlt:k<ps.length
   ·have hlt':(k:Int)<(ps.length:Int):=by omega
    obtain ⟨b,o,hbo,hb,hc⟩:=(HR.out.below HB2.out).at k hlt
    injection hbo with hbo
    injection hbo with hb1 ho1
    subst hb1;subst ho1
    rw[Nat.zero_add] at hc
    have hpz:=HZ.out ps[k] (List.getElem_mem hlt)
    have HE2:=Lib.hid (HE.out.below (HB.out.trans (HB2.out.mono HB.out.size)))
    have HP:Hid (∀u,xgrp (nums ps[k])=some u->((ps.take (k+1)).map nums).mapM xgrp=some (ns++[u])):=by
     intro u hu
     rw[take_snocT ps k hlt,List.map_append]
     have:=mapM_snoc xgrp _ ns (nums ps[k]) HN.out.1
     rw[hu] at this
     exact this
    have HQ:Hid (xgrp (nums ps[k])=none->xgrps (nums s)=none):=by
     intro hu
     rw[HG2.out]
     have e:=congrArg (List.map nums) (take_cons ps k hlt)
     rw[List.map_append,List.map_cons] at e
     rw[e,mapM_bad xgrp _ _ _ hu]
     rfl
    generalize ps[k]=p at*
    by_cases hok:∃u,puH p.data.toList=.ok u
    ·obtain ⟨u,hu⟩:=hok
     have K:=Lib.hid (fun W=>pu16_ok p (by omega) u hu W)
     have hu2:u<=65535:=by
      unfold puH at hu
      split at hu
      ·cases hu
      ·exact puX_lt _ 0 u (by omega) hu
     by_cases h4:p.size<=4
     ·have h4':¬ (4:Int)<(p.size:Int):=by omega
      have hg:=(puH_grp p.data.toList u).1 ⟨hu,h4⟩
      have HNS:=Lib.hid (HP.out u hg)
      clear hu hg HP HQ
      have hw1:IntKind.u8.wrap (u:Int)=((u % 256:Nat):Int):=by rw[IntKind.wrap_u8];omega
      have hw2:IntKind.u8.wrap ((u:Int) / 256)=((u / 256:Nat):Int):=by rw[IntKind.wrap_u8];omega
      go_wp2_with fail
      refine (K.out _).mono ?_
      rintro e w2 ⟨rfl,H2⟩
      obtain ⟨ys,hO,hT⟩:=HW.out
      have hnb:Below w2.heap.size w2 (w2.alloc (.cells #[.int .u8 ((u:Int) / 256),.int .u8 ((u:Int) % 256)] 5)):=(Below.refl _ _).alloc (Nat.le_refl _) _
      have HO2:Hid (Own w1.heap.size (w2.alloc (.cells #[.int .u8 ((u:Int) / 256),.int .u8 ((u:Int) % 256)] 5)) u4 (2*k) ys/\ys.take (2*k)=ns.flatMap xby):=⟨(hO.below H2.out).below hnb,hT⟩
      have HR2:Hid (Rd (w2.alloc (.cells #[.int .u8 ((u:Int) / 256),.int .u8 ((u:Int) % 256)] 5)) (some ⟨w2.heap.size,0,none⟩) [(u:Int) / 256,(u:Int) % 256]):=new_rd2 w2 _ _ (by omega) (by omega)
      have HNB:Hid (Below w2.heap.size w2 (w2.alloc (.cells #[.int .u8 ((u:Int) / 256),.int .u8 ((u:Int) % 256)] 5))):=hnb
      have HB3:Hid (Below w1.heap.size w1 w2):=HB2.out.trans (H2.out.mono HB2.out.size)
      clear hO hT hnb HW H2 HB2
      go_wp2_with (at_builtin;refine wpList_append_blk _ rfl _ _ rfl w1.heap.size _ (2*k) ys rfl HO2.out.1 (some ⟨w2.heap.size,0,none⟩) 2 2 [(u:Int) / 256,(u:Int) % 256] rfl HR2.out rfl (by simp) (by omega) (Nat.le_trans HB3.out.size HNB.out.size) ?_;intro v' w' ys' hO' hT' hG')
      have hrow:=HO2.out.1.lt
      refine ⟨⟨k+1,ns++[u],by omega,by go_num,⟨HNS.out,by rw[List.length_append,HN.out.2];rfl⟩,⟨ys',?_,?_⟩,?_⟩,by simp[intOf];omega⟩
      ·exact hO'.out
      ·rw[show 2*(k+1)=2*k+2 by omega,hT'.out,HO2.out.2,List.flatMap_append]
       simp[xby]
      ·exact (HB3.out.trans (HNB.out.mono HB3.out.size)).grown hG' (Nat.le_trans HB3.out.size HNB.out.size) hrow
     ·have h4':(4:Int)<(p.size:Int):=by omega
      have HQ2:=Lib.hid (HQ.out (by
       cases hx:xgrp (nums p) with
       |none=>rfl
       |some v=>exact absurd ((puH_grp p.data.toList v).2 hx).2 h4))
      clear hu HP HQ
      go_wp2_with fail
      refine (K.out _).mono ?_
      rintro e w2 ⟨rfl,H2⟩
      have HB3:Hid (Below w.heap.size w w2):=HB.out.trans ((HB2.out.trans (H2.out.mono HB2.out.size)).mono HB.out.size)
      go_wp2_with fail
      go_ret2
      exact ⟨fun out h=>(by rw[HQ2.out] at h;cases h),fun _=>⟨rfl,HB3.out⟩⟩
    ·have K:=Lib.hid (pu16_no p (by omega) (fun u hu=>hok ⟨u,hu⟩) wr HE2.out)
     have HQ2:=Lib.hid (HQ.out (by
      cases hx:xgrp (nums p) with
      |none=>rfl
      |some v=>exact absurd ⟨v,((puH_grp p.data.toList v).2 hx).1⟩ hok))
     clear hok HP HQ
     go_wp2_with fail
     refine K.out.mono ?_
     rintro e w2 ⟨x,N,rfl,H2⟩
     have HB3:Hid (Below w.heap.size w w2):=HB.out.trans ((HB2.out.trans (H2.out.mono HB2.out.size)).mono HB.out.size)
     go_wp2_with fail
     go_ret2
     exact ⟨fun out h=>(by rw[HQ2.out] at h;cases h),fun _=>⟨rfl,HB3.out⟩⟩
   ·have hge:¬ (k:Int)<(ps.length:Int):=by omega
    have HF:Hid (xgrps (nums s)=some (ns.flatMap xby)):=by
     show _=_
     have:=HN.out.1
     rw[List.take_of_length_le (by omega)] at this
     rw[HG2.out,this];rfl
    have HB3:Hid (Below w.heap.size w wr):=HB.out.trans (HB2.out.mono HB.out.size)
    go_wp2_with fail
    go_ret2
    refine ⟨fun out h=>?_,fun h=>(by rw[HF.out] at h;cases h)⟩
    rw[HF.out] at h
    injection h with h
    subst h
    obtain ⟨ys,hO,hT⟩:=HW.out
    have hl:(ns.flatMap xby).length=2*k:=by rw[xby_len,HN.out.2]
    rw[hl]
    exact ⟨_,ys,rfl,hO.mono HB.out.size,hT,HB3.out⟩
theorem short_any(s:ByteArray)(w:World)(hs:s.size<4294967281)(hE:LayE w):Calls Tryz.prog 186 #[.string s] w (ByPost (xfour (nums s)) w):=by
 have HE:Hid (LayE w):=hE
 clear hE
 go_enter Tryz.func186,Tryz.ntmps186
 go_wp2_with fail
 refine (split_any 46 s w hs HE.out).mono ?_
 rintro e w1 ⟨ps,rfl,hpl,HX,HR,HB,HZ⟩
 have HG2:Hid (xfour (nums s)=((ps.map nums).mapM fun p=>xnum p 256).bind fun a=>if a.length=4 then some (a.map Int.ofNat) else none):=by show _=_;rw[HX.out];rfl
 clear HX
 by_cases h4:ps.length=4
 ·have h4b:((ps.length:Int) != 4)=false:=by simp;omega
  have H4:Hid (ps.length=4):=h4
  clear h4
  go_wp2_with fail
  go_loopw [5,17] (fun v x wr=>∃(k:Nat) (ns:List Nat),k<=ps.length/\x=.int .i64 k/\Hid (((ps.take k).map nums).mapM (fun p=>xnum p 256)=some ns/\ns.length=k)/\Hid (∃ys,Own w1.heap.size wr v k ys/\ys.take k=ns.map Int.ofNat)/\Hid (Below w1.heap.size w1 wr)) (fun _ x _=>ps.length - (intOf x).toNat)
  case atStart=>exact ⟨0,[],Nat.zero_le _,rfl,⟨rfl,rfl⟩,⟨[],.inl ⟨rfl,rfl,rfl⟩,rfl⟩,Below.refl _ _⟩
  case round=>
   obtain ⟨k,ns,hk,rfl,HN,HW,HB2⟩:=hrel
   by_cases hlt:k<ps.length
   ·have hlt':(k:Int)<(ps.length:Int):=by omega
    obtain ⟨b,o,hbo,hb,hc⟩:=(HR.out.below HB2.out).at k hlt
    injection hbo with hbo
    injection hbo with hb1 ho1
    subst hb1;subst ho1
    rw[Nat.zero_add] at hc
    have hpz:=HZ.out ps[k] (List.getElem_mem hlt)
    have HE2:=Lib.hid (HE.out.below (HB.out.trans (HB2.out.mono HB.out.size)))
    have HP:Hid (∀u,xnum (nums ps[k]) 256=some u->((ps.take (k+1)).map nums).mapM (fun p=>xnum p 256)=some (ns++[u])):=by
     intro u hu
     rw[take_snocT ps k hlt,List.map_append]
     have:=mapM_snoc (fun p=>xnum p 256) _ ns (nums ps[k]) HN.out.1
     rw[hu] at this
     exact this
    have HQ:Hid (xnum (nums ps[k]) 256=none->xfour (nums s)=none):=by
     intro hu
     rw[HG2.out]
     have e:=congrArg (List.map nums) (take_cons ps k hlt)
     rw[List.map_append,List.map_cons] at e
     rw[e,mapM_bad (fun p=>xnum p 256) _ _ _ hu]
     rfl
    generalize ps[k]=p at*
    cases hx:xnum (nums p) 256 with
    |some u=>
     have K:=Lib.hid (fun W=>num_yes 8 (.inl rfl) p (by omega) u hx W)
     have hu2:u<=255:=by have:=(xnum_some hx).2;omega
     have HNS:=Lib.hid (HP.out u hx)
     clear hx HP HQ
     have hw1:IntKind.u8.wrap (u:Int)=(u:Int):=by rw[IntKind.wrap_u8];omega
     go_wp2_with fail
     refine (K.out _).mono ?_
     rintro e w2 ⟨rfl,H2⟩
     obtain ⟨ys,hO,hT⟩:=HW.out
     have hnb:Below w2.heap.size w2 (w2.alloc (.cells #[.int .u8 (u:Int)] 5)):=(Below.refl _ _).alloc (Nat.le_refl _) _
     have HO2:Hid (Own w1.heap.size (w2.alloc (.cells #[.int .u8 (u:Int)] 5)) u5 k ys/\ys.take k=ns.map Int.ofNat):=⟨(hO.below H2.out).below hnb,hT⟩
     have HR2:Hid (Rd (w2.alloc (.cells #[.int .u8 (u:Int)] 5)) (some ⟨w2.heap.size,0,none⟩) [(u:Int)]):=new_rd w2 _ (by omega)
     have HNB:Hid (Below w2.heap.size w2 (w2.alloc (.cells #[.int .u8 (u:Int)] 5))):=hnb
     have HB3:Hid (Below w1.heap.size w1 w2):=HB2.out.trans (H2.out.mono HB2.out.size)
     clear hO hT hnb HW H2 HB2
     go_wp2_with (at_builtin;refine wpList_append_blk _ rfl _ _ rfl w1.heap.size _ k ys rfl HO2.out.1 (some ⟨w2.heap.size,0,none⟩) 1 1 [(u:Int)] rfl HR2.out rfl (by simp) (by omega) (Nat.le_trans HB3.out.size HNB.out.size) ?_;intro v' w' ys' hO' hT' hG')
     have hrow:=HO2.out.1.lt
     refine ⟨⟨k+1,ns++[u],by omega,by go_num,⟨HNS.out,by rw[List.length_append,HN.out.2];rfl⟩,⟨ys',?_,?_⟩,?_⟩,by simp[intOf];omega⟩
     ·exact hO'.out
     ·rw[hT'.out,HO2.out.2,List.map_append];rfl
     ·exact (HB3.out.trans (HNB.out.mono HB3.out.size)).grown hG' (Nat.le_trans HB3.out.size HNB.out.size) hrow
    |none=>
     have K:=Lib.hid (num_no 8 (.inl rfl) p (by omega) hx wr HE2.out)
     have HQ2:=Lib.hid (HQ.out hx)
     clear hx HP HQ
     go_wp2_with fail
     refine K.out.mono ?_
     rintro e w2 ⟨x,rfl,H2⟩
     have HB3:Hid (Below w.heap.size w w2):=HB.out.trans ((HB2.out.trans (H2.out.mono HB2.out.size)).mono HB.out.size)
     go_wp2_with fail
     go_ret2
     exact ⟨fun out h=>(by rw[HQ2.out] at h;cases h),fun _=>⟨rfl,HB3.out⟩⟩
   ·have hge:¬ (k:Int)<(ps.length:Int):=by omega
    have HF:Hid (xfour (nums s)=some (ns.map Int.ofNat)):=by
     show _=_
     have h1:=HN.out.1
     rw[List.take_of_length_le (by omega)] at h1
     rw[HG2.out,h1,Option.bind_some,if_pos (by rw[HN.out.2];have:=H4.out;omega)]
    have HB3:Hid (Below w.heap.size w wr):=HB.out.trans (HB2.out.mono HB.out.size)
    go_wp2_with fail
    go_ret2
    refine ⟨fun out h=>?_,fun h=>(by rw[HF.out] at h;cases h)⟩
    rw[HF.out] at h
    injection h with h
    subst h
    obtain ⟨ys,hO,hT⟩:=HW.out
    have hl:(ns.map Int.ofNat).length=k:=by rw[List.length_map,HN.out.2]
    rw[hl]
    exact ⟨_,ys,rfl,hO.mono HB.out.size,hT,HB3.out⟩
 ·have h4b:((ps.length:Int) != 4)=true:=by simp;omega
  have HQ:Hid (xfour (nums s)=none):=by
   show _=_
   rw[HG2.out]
   cases hm:(ps.map nums).mapM (fun p=>xnum p 256) with
   |none=>rfl
   |some a=>
    rw[Option.bind_some,if_neg]
    have:∀(l:List (List Int)) (a:List Nat),l.mapM (fun p=>xnum p 256)=some a->a.length=l.length:=by
     intro l
     induction l with
     |nil=>intro a h;simp at h;subst h;rfl
     |cons x l ih=>
      intro a h
      rw[List.mapM_cons] at h
      cases hx:xnum x 256 with
      |none=>rw[hx] at h;cases h
      |some u=>
       rw[hx] at h
       cases hl:l.mapM (fun p=>xnum p 256) with
       |none=>rw[hl] at h;cases h
       |some b=>rw[hl] at h;injection h with h;subst h;simp[ih b hl]
    rw[this _ _ hm,List.length_map]
    exact h4
  go_wp2_with fail
  go_ret2
  exact ⟨fun out h=>(by rw[HQ.out] at h;cases h),fun _=>⟨rfl,HB.out⟩⟩
theorem xgrps_even{l out:List Int}(h:xgrps l=some out):∃k,out.length=2*k:=by
 unfold xgrps at h
 split at h
 ·injection h with h;subst h;exact ⟨0,rfl⟩
 ·rw[Option.map_eq_some_iff] at h
  obtain ⟨ns,_,rfl⟩:=h
  exact ⟨ns.length,xby_len ns⟩
theorem mapM_len{α β:Type}(f:α->Option β):∀(l:List α) (a:List β),l.mapM f=some a->a.length=l.length:=by
 intro l
 induction l with
 |nil=>intro a h;simp at h;subst h;rfl
 |cons x l ih=>
  intro a h
  rw[List.mapM_cons] at h
  cases hx:f x with
  |none=>rw[hx] at h;cases h
  |some u=>
   rw[hx] at h
   cases hl:l.mapM f with
   |none=>rw[hl] at h;cases h
   |some b=>rw[hl] at h;injection h with h;subst h;simp[ih b hl]
theorem xgrps_le{l out:List Int}(h:xgrps l=some out):out.length<=2*(l.length+1):=by
 unfold xgrps at h
 split at h
 ·injection h with h;subst h;simp
 ·rw[Option.map_eq_some_iff] at h
  obtain ⟨ns,h1,rfl⟩:=h
  have h2:=mapM_len _ _ _ h1
  have h3:=(xsplit_many 58 l).1
  rw[xby_len]
  omega
def CutF(s f b:ByteArray)(g:Bool):Prop:=(g=true/\xdc (nums s)=some (nums f,nums b))∨(g=false/\xdc (nums s)=none/\f=s/\b=⟨#[]⟩)
theorem cut_any(s:ByteArray)(w:World)(hs:s.size<4294967281)(hE:LayE w) :
  Calls Tryz.prog 204 #[.string s,.string ⟨#[58,58]⟩] w fun e w'=>∃f b g,e=.returned (.tuple #[.string f,.string b,.bool g])/\Hid (CutF s f b g)/\f.size<=s.size/\b.size<=s.size/\Hid (Below w.heap.size w w'):=by
 obtain ⟨_,_,_,m,hm⟩:=hE
 refine (Tryz.strings_Cut s ⟨#[58,58]⟩ m w hs hm).mono ?_
 rintro e w' ⟨rfl,n,rfl⟩
 have hb:Below w.heap.size w (w.drewN n):=⟨rfl,rfl,rfl,Nat.le_refl _,fun _ _=>rfl⟩
 have hmk:∀l:List UInt8,(⟨l.toArray⟩:ByteArray).data.toList=l:=fun l=>by simp
 have hsz:∀l:List UInt8,(⟨l.toArray⟩:ByteArray).size=l.length:=fun l=>by show l.toArray.size=_;simp
 have hself:(⟨s.data.toList.toArray⟩:ByteArray)=s:=by apply ByteArray.ext;simp
 have h58:(⟨#[58,58]⟩:ByteArray).data.toList=[58,58]:=rfl
 rw[h58]
 cases hx:xdc (bi s.data.toList) with
 |none=>
  rw[cut_none _ hx]
  refine ⟨_,_,_,rfl,.inr ⟨rfl,hx,hself,rfl⟩,by rw[hself];exact Nat.le_refl _,by rw[hsz];exact Nat.zero_le _,hb⟩
 |some p=>
  obtain ⟨p,r⟩:=p
  obtain ⟨a,b,e,h1,h2⟩:=cut_some _ p r hx
  obtain ⟨a',b',e',_,_,_⟩:=(index_cc s.data.toList).2 p r hx
  have hl:a.length<=s.size/\b.length<=s.size:=by
   unfold Lib.cut at e
   split at e
   ·have e1:=congrArg (fun x=>x.1.length) e
    have e2:=congrArg (fun x=>x.2.1.length) e
    simp only[List.length_take,List.length_drop] at e1 e2
    have:s.data.toList.length=s.size:=rfl
    omega
   ·exact absurd (congrArg (fun x=>x.2.2) e) (by simp)
  rw[e]
  refine ⟨_,_,_,rfl,.inl ⟨rfl,?_⟩,by rw[hsz];exact hl.1,by rw[hsz];exact hl.2,hb⟩
  rw[nums_bi,hx,nums_bi,nums_bi,hmk,hmk,h1,h2]
theorem tail_rd{B:Nat}{w w':World}{bo:Option Addr}{n:Nat}{zs ob:List Int}{v:Value}(h:Own B w (.slice bo n zs.length) n zs)(ht:zs.take n=ob)(hg:w.grownBy w' v.ownBlock)(hr:∀g,v.ownBlock=some g->g<B):Rd w' bo ob:=by
 obtain ⟨bo',e,hA⟩:=h.addr
 injection e with e _ _
 subst e
 have hk:=hA.keep (w':=w') (fun g h1 h2=>hg.block g h2 (fun e=>by
  have h3:=(hA.lt g h1).1
  have h4:=hr g e.symm
  omega))
 have:=hk.rdTake n
 rw[ht] at this
 exact this
theorem long_any(s:ByteArray)(w:World)(hs:s.size<4294967281)(hE:LayE w):Calls Tryz.prog 187 #[.string s] w (ByPost (xsix (nums s)) w):=by
 have HE:Hid (LayE w):=hE
 clear hE
 go_enter Tryz.func187,Tryz.ntmps187
 go_wp2_with fail
 refine (cut_any s w hs HE.out).mono ?_
 rintro e w1 ⟨f,b,g,rfl,HC,hf,hb,H1⟩
 have K1:=Lib.hid (pairs_any f w1 (by omega) (HE.out.below H1.out))
 go_wp2_with fail
 refine K1.out.mono ?_
 intro e w2 HP1
 have HP1:=Lib.hid HP1
 clear K1
 cases ha:xgrps (nums f) with
 |none=>
  obtain ⟨rfl,H2⟩:=HP1.out.2 ha
  have HB2:Hid (Below w.heap.size w w2):=H1.out.trans (H2.out.mono H1.out.size)
  have K2:=Lib.hid (pairs_any b w2 (by omega) (HE.out.below HB2.out))
  have HX:Hid (xsix (nums s)=none):=by
   show _=_
   unfold xsix
   rcases HC.out with ⟨_,h⟩|⟨_,h,rfl,_⟩
   ·rw[h];simp only;rw[ha];rfl
   ·rw[h];simp only;rw[ha];rfl
  clear HP1 H2
  go_wp2_with fail
  refine K2.out.mono ?_
  intro e w3 HP2
  have HP2:=Lib.hid HP2
  clear K2
  cases hb2:xgrps (nums b) with
  |none=>
   obtain ⟨rfl,H3⟩:=HP2.out.2 hb2
   have HB3:Hid (Below w.heap.size w w3):=HB2.out.trans (H3.out.mono HB2.out.size)
   clear HP2
   go_wp2_with fail
   go_ret2
   exact ⟨fun out h=>(by rw[HX.out] at h;cases h),fun _=>⟨rfl,HB3.out⟩⟩
  |some ob=>
   obtain ⟨v,ys,rfl,H3⟩:=HP2.out.1 ob hb2
   have HB3:Hid (Below w.heap.size w w3):=HB2.out.trans (H3.out.2.2.mono HB2.out.size)
   obtain ⟨ao,rfl,hA⟩:=H3.out.1.addr
   clear HP2 hA
   go_wp2_with fail
   go_ret2
   exact ⟨fun out h=>(by rw[HX.out] at h;cases h),fun _=>⟨rfl,HB3.out⟩⟩
 |some oa=>
  obtain ⟨va,za,rfl,H2⟩:=HP1.out.1 oa ha
  have HB2:Hid (Below w.heap.size w w2):=H1.out.trans (H2.out.2.2.mono H1.out.size)
  have K2:=Lib.hid (pairs_any b w2 (by omega) (HE.out.below HB2.out))
  obtain ⟨ao,rfl,hA⟩:=H2.out.1.addr
  clear HP1 hA
  go_wp2_with fail
  refine K2.out.mono ?_
  intro e w3 HP2
  have HP2:=Lib.hid HP2
  clear K2
  cases hb2:xgrps (nums b) with
  |none=>
   obtain ⟨rfl,H3⟩:=HP2.out.2 hb2
   have HX:Hid (xsix (nums s)=none):=by
    show _=_
    unfold xsix
    rcases HC.out with ⟨_,h⟩|⟨_,h,rfl,rfl⟩
    ·rw[h];simp only;rw[ha,hb2];rfl
    ·exact absurd hb2 (by decide)
   have HB3:Hid (Below w.heap.size w w3):=HB2.out.trans (H3.out.mono HB2.out.size)
   clear HP2
   go_wp2_with fail
   go_ret2
   exact ⟨fun out h=>(by rw[HX.out] at h;cases h),fun _=>⟨rfl,HB3.out⟩⟩
  |some ob=>
   obtain ⟨vb,zb,rfl,H3⟩:=HP2.out.1 ob hb2
   have HB3:Hid (Below w.heap.size w w3):=HB2.out.trans (H3.out.2.2.mono HB2.out.size)
   obtain ⟨bo,rfl,hA⟩:=H3.out.1.addr
   clear HP2 hA
   obtain ⟨ka,hka⟩:=xgrps_even ha
   obtain ⟨kb,hkb⟩:=xgrps_even hb2
   have HX:Hid (xsix (nums s)=if (g=true/\ka+kb<=7)∨(g=false/\ka+kb=8) then some (oa++List.replicate (16 - 2*ka - 2*kb) 0++ob) else none):=by
    show _=_
    unfold xsix
    rcases HC.out with ⟨hg,h⟩|⟨hg,h,rfl,rfl⟩
    ·rw[h]
     simp only
     rw[ha,hb2,Option.bind_some,Option.bind_some,hka,hkb]
     by_cases hc:ka+kb<=7
     ·rw[if_pos (by omega),if_pos (.inl ⟨hg,hc⟩)]
     ·rw[if_neg (by omega),if_neg]
      rintro (⟨_,h⟩|⟨h,_⟩)
      ·exact hc h
      ·rw[hg] at h;cases h
    ·rw[h]
     simp only
     rw[ha,Option.bind_some,hka]
     have e0:ob=[]:=by
      have h0:xgrps (nums ⟨#[]⟩)=some []:=rfl
      rw[h0] at hb2;injection hb2 with hb2;exact hb2.symm
     subst e0
     simp only[List.length_nil] at hkb
     by_cases hc:2*ka=16
     ·rw[if_pos hc,if_pos (.inr ⟨hg,by omega⟩)]
      have:16 - 2*ka - 2*kb=0:=by omega
      rw[this];simp
     ·rw[if_neg hc,if_neg]
      rintro (⟨h,_⟩|⟨_,h⟩)
      ·rw[hg] at h;cases h
      ·omega
   have HA:Hid (Own w1.heap.size w3 (.slice ao oa.length za.length) oa.length za/\za.take oa.length=oa/\(∀g,blk ao=some g->g<w2.heap.size)):=by
    refine ⟨H2.out.1.below H3.out.2.2,H2.out.2.1,fun g hg=>?_⟩
    obtain ⟨ao',e,hA⟩:=H2.out.1.addr
    injection e with e _ _
    subst e
    exact (hA.lt g hg).2
   have HBb:Hid (Own w2.heap.size w3 (.slice bo ob.length zb.length) ob.length zb/\zb.take ob.length=ob):=⟨H3.out.1,H3.out.2.1⟩
   have hs21:w1.heap.size<=w2.heap.size:=H2.out.2.2.size
   have hs32:w2.heap.size<=w3.heap.size:=H3.out.2.2.size
   have HSZ:Hid (Below w.heap.size w w1/\w.heap.size<=w1.heap.size):=⟨H1.out,H1.out.size⟩
   have hba:=xgrps_le ha
   have hbb:=xgrps_le hb2
   rw[nums_len] at hba hbb
   have hba:oa.length<=10000000000:=by omega
   have hbb:ob.length<=10000000000:=by omega
   clear H2 H3 ha hb2 HC HP1 HP2 HB2 H1
   have HKA:Hid (oa.length=2*ka/\ob.length=2*kb):=⟨hka,hkb⟩
   clear hka hkb
   obtain ⟨la,hla⟩:∃la,oa.length=la:=⟨_,rfl⟩
   obtain ⟨lb',hlb⟩:∃lb',ob.length=lb':=⟨_,rfl⟩
   have HLN:Hid (oa.length=la/\ob.length=lb'):=⟨hla,hlb⟩
   rw[hla,hlb] at HKA
   rw[hla] at HA
   rw[hlb] at HBb
   rw[hla] at hba
   rw[hlb] at hbb
   rw[hla,hlb]
   clear hla hlb
   by_cases c1:16<la+lb'
   ·have c1':(16:Int) - (la:Int)<(lb':Int):=by omega
    have HX2:Hid (xsix (nums s)=none):=by
     show _=_
     have h1:=HKA.out.1;have h2:=HKA.out.2
     rw[HX.out,if_neg (by rintro (⟨_,h⟩|⟨_,h⟩) <;> omega)]
    clear HX
    go_wp2_with fail
    go_ret2
    exact ⟨fun out h=>(by rw[HX2.out] at h;cases h),fun _=>⟨rfl,HB3.out⟩⟩
   ·have c1':¬ (16:Int) - (la:Int)<(lb':Int):=by omega
    cases g with
    |true=>
     by_cases c2:la+lb'=16
     ·have c2':¬ (lb':Int)<(16:Int) - (la:Int):=by omega
      have hd:decide ((lb':Int)<(16:Int) - (la:Int))=false:=decide_eq_false c2'
      have HX2:Hid (xsix (nums s)=none):=by
       show _=_
       have h1:=HKA.out.1;have h2:=HKA.out.2
       rw[HX.out,if_neg (by rintro (⟨_,h⟩|⟨h,_⟩);omega;cases h)]
      clear HX
      go_wp2_with fail
      go_ret2
      exact ⟨fun out h=>(by rw[HX2.out] at h;cases h),fun _=>⟨rfl,HB3.out⟩⟩
     ·have c2':(lb':Int)<(16:Int) - (la:Int):=by omega
      have hd:decide ((lb':Int)<(16:Int) - (la:Int))=true:=decide_eq_true c2'
      have HX2:Hid (xsix (nums s)=some (oa++List.replicate (16 - la - lb') 0++ob)):=by
       show _=_
       have h1:=HKA.out.1;have h2:=HKA.out.2
       rw[HX.out,if_pos (.inl ⟨rfl,by omega⟩),h1,h2]
      clear HX
      have HNil:Hid (bo=none->zb.length=0):=by
       obtain ⟨bo',e,hA⟩:=HBb.out.1.addr
       injection e with e _ _
       subst e
       exact hA.nil
      have HRow:Hid (∀g,(Value.slice ao la za.length).ownBlock=some g->w1.heap.size<=g/\g<w2.heap.size):=by
       intro g hg
       refine ⟨HA.out.1.lt g hg,HA.out.2.2 g ?_⟩
       rw[<- hg]
       cases ao <;> rfl
      go_wp2_with (first
       |(at_builtin;refine wpList_append_zeros _ rfl _ _ rfl w1.heap.size _ la za rfl HA.out.1 (16 - la - lb') _ rfl (by omega) (by omega) (by omega) (Nat.le_trans hs21 hs32) ?_;intro v4 w4 z4 hO4 hT4 hG4;have HG4:Hid (w3.grownBy w4 (Value.slice ao la za.length).ownBlock):=hG4;clear hG4;have HR4:=Lib.hid (tail_rd HBb.out.1 HBb.out.2 HG4.out (fun g hg=>(HRow.out g hg).2));have HS4:Hid (w3.heap.size<=w4.heap.size):=HG4.out.size)
       |(at_builtin;refine wpList_append_blk _ rfl _ _ rfl w1.heap.size _ (la+(16 - la - lb')) z4 rfl hO4.out bo lb' zb.length ob rfl HR4.out HLN.out.2 HNil.out (by omega) (Nat.le_trans (Nat.le_trans hs21 hs32) HS4.out) ?_;intro v5 w5 z5 hO5 hT5 hG5;have HG5:Hid (w4.grownBy w5 v4.ownBlock):=hG5;clear hG5))
      go_ret2
      refine ⟨fun out h=>?_,fun h=>(by rw[HX2.out] at h;cases h)⟩
      rw[HX2.out] at h
      injection h with h
      subst h
      have hlen:(oa++List.replicate (16 - la - lb') 0++ob).length=la+(16 - la - lb')+lb':=by
       simp only[List.length_append,List.length_replicate,HLN.out.1,HLN.out.2]
      rw[hlen]
      have hb4:Below w.heap.size w w4:=HB3.out.grown HG4.out HB3.out.size (fun g hg=>Nat.le_trans HSZ.out.2 (HRow.out g hg).1)
      refine ⟨_,z5,rfl,hO5.out.mono HSZ.out.2,?_,hb4.grown HG5.out hb4.size (fun g hg=>Nat.le_trans HSZ.out.2 (hO4.out.lt g hg))⟩
      rw[hT5.out,hT4.out,HA.out.2.1]
    |false=>
     by_cases c2:la+lb'=16
     ·have c2':¬ (lb':Int)<(16:Int) - (la:Int):=by omega
      have hd:decide ((lb':Int)<(16:Int) - (la:Int))=false:=decide_eq_false c2'
      have HX2:Hid (xsix (nums s)=some (oa++List.replicate (16 - la - lb') 0++ob)):=by
       show _=_
       have h1:=HKA.out.1;have h2:=HKA.out.2
       rw[HX.out,if_pos (.inr ⟨rfl,by omega⟩),h1,h2]
      clear HX
      have HNil:Hid (bo=none->zb.length=0):=by
       obtain ⟨bo',e,hA⟩:=HBb.out.1.addr
       injection e with e _ _
       subst e
       exact hA.nil
      have HRow:Hid (∀g,(Value.slice ao la za.length).ownBlock=some g->w1.heap.size<=g/\g<w2.heap.size):=by
       intro g hg
       refine ⟨HA.out.1.lt g hg,HA.out.2.2 g ?_⟩
       rw[<- hg]
       cases ao <;> rfl
      go_wp2_with (first
       |(at_builtin;refine wpList_append_zeros _ rfl _ _ rfl w1.heap.size _ la za rfl HA.out.1 (16 - la - lb') _ rfl (by omega) (by omega) (by omega) (Nat.le_trans hs21 hs32) ?_;intro v4 w4 z4 hO4 hT4 hG4;have HG4:Hid (w3.grownBy w4 (Value.slice ao la za.length).ownBlock):=hG4;clear hG4;have HR4:=Lib.hid (tail_rd HBb.out.1 HBb.out.2 HG4.out (fun g hg=>(HRow.out g hg).2));have HS4:Hid (w3.heap.size<=w4.heap.size):=HG4.out.size)
       |(at_builtin;refine wpList_append_blk _ rfl _ _ rfl w1.heap.size _ (la+(16 - la - lb')) z4 rfl hO4.out bo lb' zb.length ob rfl HR4.out HLN.out.2 HNil.out (by omega) (Nat.le_trans (Nat.le_trans hs21 hs32) HS4.out) ?_;intro v5 w5 z5 hO5 hT5 hG5;have HG5:Hid (w4.grownBy w5 v4.ownBlock):=hG5;clear hG5))
      go_ret2
      refine ⟨fun out h=>?_,fun h=>(by rw[HX2.out] at h;cases h)⟩
      rw[HX2.out] at h
      injection h with h
      subst h
      have hlen:(oa++List.replicate (16 - la - lb') 0++ob).length=la+(16 - la - lb')+lb':=by
       simp only[List.length_append,List.length_replicate,HLN.out.1,HLN.out.2]
      rw[hlen]
      have hb4:Below w.heap.size w w4:=HB3.out.grown HG4.out HB3.out.size (fun g hg=>Nat.le_trans HSZ.out.2 (HRow.out g hg).1)
      refine ⟨_,z5,rfl,hO5.out.mono HSZ.out.2,?_,hb4.grown HG5.out hb4.size (fun g hg=>Nat.le_trans HSZ.out.2 (hO4.out.lt g hg))⟩
      rw[hT5.out,hT4.out,HA.out.2.1]
     ·have c2':(lb':Int)<(16:Int) - (la:Int):=by omega
      have hd:decide ((lb':Int)<(16:Int) - (la:Int))=true:=decide_eq_true c2'
      have HX2:Hid (xsix (nums s)=none):=by
       show _=_
       have h1:=HKA.out.1;have h2:=HKA.out.2
       rw[HX.out,if_neg (by rintro (⟨h,_⟩|⟨_,h⟩);cases h;omega)]
      clear HX
      go_wp2_with fail
      go_ret2
      exact ⟨fun out h=>(by rw[HX2.out] at h;cases h),fun _=>⟨rfl,HB3.out⟩⟩
theorem xsplit_mem(c x:Int)(l:List Int)(hx:x≠c)(h:x∈l):∃p∈xsplit c l,x∈p:=by
 induction l with
 |nil=>cases h
 |cons y l ih=>
  simp only[xsplit]
  by_cases hy:y=c
  ·rw[if_pos hy]
   rcases List.mem_cons.1 h with rfl|h
   ·exact absurd hy hx
   ·obtain ⟨p,hp,hxp⟩:=ih h
    exact ⟨p,List.mem_cons_of_mem _ hp,hxp⟩
  ·rw[if_neg hy]
   cases hq:xsplit c l with
   |nil=>
    have:=(xsplit_many c l).2
    rw[hq] at this
    simp at this
   |cons q qs=>
    simp only
    rcases List.mem_cons.1 h with rfl|h
    ·exact ⟨_,List.mem_cons_self ..,List.mem_cons_self ..⟩
    ·obtain ⟨p,hp,hxp⟩:=ih h
     rw[hq] at hp
     rcases List.mem_cons.1 hp with rfl|hp
     ·exact ⟨_,List.mem_cons_self ..,List.mem_cons_of_mem _ hxp⟩
     ·exact ⟨p,List.mem_cons_of_mem _ hp,hxp⟩
theorem mapM_none{α β:Type}(f:α->Option β)(l:List α)(x:α)(hx:x∈l)(h:f x=none):l.mapM f=none:=by
 obtain ⟨a,b,rfl⟩:=List.append_of_mem hx
 exact mapM_bad f a x b h
theorem xp_colon(l:List Int)(h:(58:Int)∈l):xpaddr l=xsix l:=by
 unfold xpaddr
 have:xfour l=none:=by
  obtain ⟨p,hp,hc⟩:=xsplit_mem 46 58 l (by decide) h
  unfold xfour
  rw[mapM_none _ _ p hp]
  ·rfl
  ·cases hx:xnum p 256 with
   |none=>rfl
   |some n=>
    have h1:=(xnum_some hx).1
    rw[h1] at hc
    have:=xdec_digit n 58 hc
    omega
 rw[this]
theorem xp_plain(l:List Int)(h:(58:Int) ∉ l):xpaddr l=xfour l:=by
 unfold xpaddr
 cases hf:xfour l with
 |some b=>rfl
 |none=>
  simp only
  unfold xsix
  have hd:xdc l=none:=by
   have:=xdc_pre l [] h
   rw[List.append_nil] at this
   rw[this];rfl
  rw[hd]
  simp only
  unfold xgrps
  by_cases h0:l=[]
  ·rw[if_pos h0];rfl
  ·rw[if_neg h0,xsplit_none 58 l h]
   cases hg:xgrp l with
   |none=>simp[List.mapM_cons,hg]
   |some n=>simp[List.mapM_cons,hg,xby]
def AdPost(o:Option (List Int))(w:World)(e:Ending)(w':World):Prop:=
 (∀out,o=some out->∃v ys,e=.returned (.tuple #[v,.int .i64 0])/\Hid (Own w.heap.size w' v out.length ys/\ys.take out.length=out/\Below w.heap.size w w'))/\
 (o=none->e=.returned (.tuple #[.slice none 0 0,.int .i64 7])/\Hid (Below w.heap.size w w'))
theorem paddr_any(s:ByteArray)(w:World)(hs:s.size<4294967281)(hE:LayE w):Calls Tryz.prog 172 #[.string s] w (AdPost (xpaddr (nums s)) w):=by
 have KS:=Lib.hid (short_any s w hs hE)
 have KL:=Lib.hid (long_any s w hs hE)
 clear hE
 by_cases hc:(58:UInt8)∈s.data.toList
 ·have hp:xpaddr (nums s)=xsix (nums s):=xp_colon _ ((bi_mem 58 _).2 hc)
  have K1:=Lib.hid (Tryz.strings_Contains_one s 58 w)
  rw[(has_x 58 s.data.toList).2 hc] at K1
  rw[hp]
  clear hc hp KS
  generalize xsix (nums s)=o at*
  go_enter Tryz.func172,Tryz.ntmps172
  go_wp2_with fail
  refine K1.out.mono ?_
  rintro e w' ⟨rfl,hw⟩
  subst w'
  go_wp2_with fail
  refine KL.out.mono ?_
  intro e w1 HP
  have HP:=Lib.hid HP
  clear KL K1
  cases o with
  |none=>
   obtain ⟨rfl,H⟩:=HP.out.2 rfl
   clear HP
   go_wp2_with fail
   go_ret2
   exact ⟨fun out h=>(by cases h),fun _=>⟨rfl,H.out⟩⟩
  |some out=>
   obtain ⟨v,ys,rfl,H⟩:=HP.out.1 out rfl
   clear HP
   go_wp2_with fail
   go_ret2
   exact ⟨fun out' h=>(by injection h with h;subst h;exact ⟨v,ys,rfl,H.out⟩),fun h=>(by cases h)⟩
 ·have hp:xpaddr (nums s)=xfour (nums s):=xp_plain _ (fun h=>hc ((bi_mem 58 _).1 h))
  have K1:=Lib.hid (Tryz.strings_Contains_one s 58 w)
  have hf:decide (0<=Lib.indexByte s.data.toList 58)=false:=by
   cases h:decide (0<=Lib.indexByte s.data.toList 58) with
   |false=>rfl
   |true=>exact absurd ((has_x 58 s.data.toList).1 h) hc
  rw[hf] at K1
  rw[hp]
  clear hc hp KL hf
  generalize xfour (nums s)=o at*
  go_enter Tryz.func172,Tryz.ntmps172
  go_wp2_with fail
  refine K1.out.mono ?_
  rintro e w' ⟨rfl,hw⟩
  subst w'
  go_wp2_with fail
  refine KS.out.mono ?_
  intro e w1 HP
  have HP:=Lib.hid HP
  clear KS K1
  cases o with
  |none=>
   obtain ⟨rfl,H⟩:=HP.out.2 rfl
   clear HP
   go_wp2_with fail
   go_ret2
   exact ⟨fun out h=>(by cases h),fun _=>⟨rfl,H.out⟩⟩
  |some out=>
   obtain ⟨v,ys,rfl,H⟩:=HP.out.1 out rfl
   clear HP
   go_wp2_with fail
   go_ret2
   exact ⟨fun out' h=>(by injection h with h;subst h;exact ⟨v,ys,rfl,H.out⟩),fun h=>(by cases h)⟩
end Go.Proofs.YtjkljpdolhglcaaGreatDoor
namespace Go.Proofs.YtjkljpdolhglcaaGreatDoor
open Go.ChangeShapes Go.WideShapes Go.ChangeAt Go.RowKit
def foldL(s:ByteArray):ByteArray:=⟨(txt ((nums s).map fz)).toArray⟩
theorem foldL_size(s:ByteArray):(foldL s).size=s.size:=by
 show (txt ((nums s).map fz)).toArray.size=s.size
 rw[List.size_toArray,txt_len,List.length_map,nums_len]
theorem same_yes(a b:Option Addr)(n c d:Nat)(zs:List Int)(w:World)(hr:Rd w a zs)(hr':Rd w b zs)(hl:zs.length=n) :
  Calls Tryz.prog 73 #[.slice a n c,.slice b n d] w fun e w'=>e=.returned (.bool true)/\w'=w:=by
 have h1:=conv_rd a n c zs w hr hl
 have h2:=conv_rd b n d zs w hr' hl
 clear hr hr'
 generalize txt zs=t at*
 go_enter Tryz.func73,Tryz.ntmps73
 go_wp2
 go_ret
 exact ⟨rfl,rfl⟩
theorem empty_own(w:World):Own w.heap.size (w.alloc (.cells #[] 5)) (.slice (some ⟨w.heap.size,0,none⟩) 0 0) 0 []:=
 .inr ⟨w.heap.size,rfl,Nat.le_refl _,⟨by rw[heap_alloc_new];rfl,by simp⟩,Nat.le_refl _,Nat.zero_le _⟩
theorem clone_any(x:Addr)(cap:Nat)(zs:List Int)(w:World)(hr:Rd w (some x) zs)(hm:zs.length<=140737488355328) :
  Calls Tryz.prog 196 #[.slice (some x) zs.length cap] w fun e w'=>∃v ys,e=.returned v/\Own w.heap.size w' v zs.length ys/\ys.take zs.length=zs/\Below w.heap.size w w':=by
 have HR:Hid (Rd w (some x) zs):=hr
 clear hr
 obtain ⟨len,hlen⟩:∃len,len=zs.length:=⟨_,rfl⟩
 rw[<- hlen] at hm ⊢
 have HL:Hid (len=zs.length):=hlen
 clear hlen
 have hb1:Below w.heap.size w (w.alloc (.cells #[] 5)):=(Below.refl _ _).alloc (Nat.le_refl _) _
 have hnil:∀W:World,(binOp .eql 46 (.slice (some x) len cap) (.slice none 0 0)).run Tryz.prog W=.ok (.bool false) W:=fun W=>Lib.run_eql_slice_nil W _ _ _ _ _ _ _ Tryz.underlying46
 go_enter Tryz.func196,Tryz.ntmps196
 go_wp2_with (at_builtin;refine wpList_append_blk _ rfl _ _ rfl w.heap.size _ 0 [] rfl (empty_own w) (some x) len cap zs rfl (HR.out.below hb1) HL.out.symm (by simp) (by omega) (by simp) ?_;intro v' w' zs' hO hT hG)
 go_ret
 refine ⟨v',zs',rfl,?_,?_,?_⟩
 ·have h:=hO.out
  rw[Nat.zero_add] at h
  exact h
 ·have h:=hT.out
  rw[Nat.zero_add] at h
  simpa using h
 ·refine hb1.grown hG (by simp) ?_
  intro k hk
  have e:w.heap.size=k:=Option.some.inj hk
  omega
theorem clone_none(w:World) :
  Calls Tryz.prog 196 #[.slice none 0 0] w fun e w'=>e=.returned (.slice none 0 0)/\w'=w:=by
 have hnil:∀W:World,(binOp .eql 46 (.slice none 0 0) (.slice none 0 0)).run Tryz.prog W=.ok (.bool true) W:=fun W=>Lib.run_eql_slice_nil W _ _ _ _ _ _ _ Tryz.underlying46
 go_enter Tryz.func196,Tryz.ntmps196
 go_wp2
 go_ret
 exact ⟨rfl,rfl⟩
end Go.Proofs.YtjkljpdolhglcaaGreatDoor
namespace Go.Proofs.YtjkljpdolhglcaaGreatDoor
open Go.ChangeShapes Go.WideShapes Go.ChangeAt Go.RowKit Go.Deep
structure Sl where
 a:Option Addr
 n:Nat
 c:Nat
def uv(us:List Nat):List Value:=us.map fun (n:Nat)=>Value.int .u32 (n:Int)
theorem uv_len(us:List Nat):(uv us).length=us.length:=by simp[uv]
structure TRd(w:World)(s:Sl)(ss:List ByteArray):Prop where
 rd:RdT w s.a ss
 len:ss.length=s.n
 cap:s.n<=s.c/\s.c<=9223372036854775807
 nil:s.a=none->s.c=0
 z63:∀x∈ss,x.size<=9223372036854775807
theorem TRd.below{w w':World}{s:Sl}{ss:List ByteArray}(h:TRd w s ss)(hb:Below w.heap.size w w'):TRd w' s ss:=⟨h.rd.below hb,h.len,h.cap,h.nil,h.z63⟩
structure NRd(w:World)(s:Sl)(nss:List (List ByteArray)):Prop where
 rd:nss=[]∨∃b o,s.a=some ⟨b,o,none⟩/\b<w.heap.size/\∀i (h:i<nss.length),∃x:Sl,w.cell? ⟨b,o+i,none⟩=some (.slice x.a x.n x.c)/\TRd w x nss[i]
 len:nss.length=s.n
 cap:s.n<=s.c/\s.c<=9223372036854775807
 nil:s.a=none->s.c=0
theorem NRd.below{w w':World}{s:Sl}{nss:List (List ByteArray)}(h:NRd w s nss)(hb:Below w.heap.size w w'):NRd w' s nss:=by
 refine ⟨?_,h.len,h.cap,h.nil⟩
 rcases h.rd with h1|⟨b,o,h1,h2,h3⟩
 ·exact .inl h1
 ·refine .inr ⟨b,o,h1,Nat.lt_of_lt_of_le h2 hb.size,fun i hi=>?_⟩
  obtain ⟨x,h4,h5⟩:=h3 i hi
  exact ⟨x,(hb.cell (p:=⟨b,o+i,none⟩) h2).trans h4,h5.below hb⟩
theorem NRd.at{w:World}{s:Sl}{nss:List (List ByteArray)}(h:NRd w s nss)(i:Nat)(hi:i<nss.length):∃b o,s.a=some ⟨b,o,none⟩/\b<w.heap.size/\∃x:Sl,w.cell? ⟨b,o+i,none⟩=some (.slice x.a x.n x.c)/\TRd w x nss[i]:=by
 rcases h.rd with h1|⟨b,o,h1,h2,h3⟩
 ·subst h1;simp at hi
 ·exact ⟨b,o,h1,h2,h3 i hi⟩
structure URd(w:World)(s:Sl)(us:List Nat):Prop where
 rd:RdV w s.a (uv us)
 len:us.length=s.n
 cap:s.n<=s.c/\s.c<=9223372036854775807
 nil:s.a=none->s.c=0
 bd:∀x∈us,x<=4294967295
theorem URd.below{w w':World}{s:Sl}{us:List Nat}(h:URd w s us)(hb:Below w.heap.size w w'):URd w' s us:=⟨h.rd.below hb,h.len,h.cap,h.nil,h.bd⟩
theorem URd.at{w:World}{s:Sl}{us:List Nat}(h:URd w s us)(i:Nat)(hi:i<us.length):∃b o,s.a=some ⟨b,o,none⟩/\b<w.heap.size/\w.cell? ⟨b,o+i,none⟩=some (.int .u32 (us[i]:Int)):=by
 rcases h.rd with h1|⟨b,o,h1,h2,h3⟩
 ·have:=congrArg List.length h1
  rw[uv_len] at this
  simp at this
  subst this
  simp at hi
 ·refine ⟨b,o,h1,h2,?_⟩
  rw[h3 i (by rw[uv_len];exact hi)]
  simp[uv]
structure BRd(w:World)(s:Sl)(zs:List Int):Prop where
 rd:Rd w s.a zs
 len:zs.length=s.n
 cap:s.n<=s.c/\s.c<=9223372036854775807
 nil:s.a=none->s.c=0
theorem BRd.below{w w':World}{s:Sl}{zs:List Int}(h:BRd w s zs)(hb:Below w.heap.size w w'):BRd w' s zs:=⟨h.rd.below hb,h.len,h.cap,h.nil⟩
structure DA where
 p1:Sl
 p2:Sl
 p3:Sl
 p4:Sl
structure DRd(w:World)(x:DA)(d:Dat):Prop where
 h1:NRd w x.p1 d.ns
 h2:URd w x.p2 d.us
 h3:TRd w x.p3 d.ts
 h4:BRd w x.p4 d.raw
theorem DRd.below{w w':World}{x:DA}{d:Dat}(h:DRd w x d)(hb:Below w.heap.size w w'):DRd w' x d:=⟨h.h1.below hb,h.h2.below hb,h.h3.below hb,h.h4.below hb⟩
variable {H:Type} {enc:TypeId × Value->H} {W:World}
end Go.Proofs.YtjkljpdolhglcaaGreatDoor
namespace Go.Proofs.YtjkljpdolhglcaaGreatDoor
open Go.ChangeShapes Go.WideShapes Go.ChangeAt Go.RowKit
abbrev DA.val(x:DA):Value:=.agg #[.slice x.p1.a x.p1.n x.p1.c,.slice x.p2.a x.p2.n x.p2.c,.slice x.p3.a x.p3.n x.p3.c,.slice x.p4.a x.p4.n x.p4.c]
def DBox(w:World)(b:Nat)(x:DA):Prop:=
 w.cell? ⟨b,0,none⟩=some (.slice x.p1.a x.p1.n x.p1.c)/\w.cell? ⟨b,1,none⟩=some (.slice x.p2.a x.p2.n x.p2.c)/\w.cell? ⟨b,2,none⟩=some (.slice x.p3.a x.p3.n x.p3.c)/\w.cell? ⟨b,3,none⟩=some (.slice x.p4.a x.p4.n x.p4.c)/\b<w.heap.size
theorem DBox.new(w:World)(x:DA):DBox (w.alloc (.cells #[.slice x.p1.a x.p1.n x.p1.c,.slice x.p2.a x.p2.n x.p2.c,.slice x.p3.a x.p3.n x.p3.c,.slice x.p4.a x.p4.n x.p4.c] 48)) w.heap.size x:=by
 refine ⟨?_,?_,?_,?_,by simp⟩ <;> (unfold World.cell?;rw[heap_alloc_new];rfl)
theorem DBox.below{w w':World}{b:Nat}{x:DA}(h:DBox w b x)(hb:Below w.heap.size w w'):DBox w' b x:=
 ⟨(hb.cell (p:=⟨b,0,none⟩) h.2.2.2.2).trans h.1,(hb.cell (p:=⟨b,1,none⟩) h.2.2.2.2).trans h.2.1,(hb.cell (p:=⟨b,2,none⟩) h.2.2.2.2).trans h.2.2.1,(hb.cell (p:=⟨b,3,none⟩) h.2.2.2.2).trans h.2.2.2.1,Nat.lt_of_lt_of_le h.2.2.2.2 hb.size⟩
structure Fs where
 nn:Nat
 nf:Nat
 nu:Nat
 wd:Nat
 nt:Int
 tg:Nat
 tl:Nat
 nr:Int
def fs(t:Nat):Fs:=
 if t=1 then ⟨0,0,0,0,0,0,0,4⟩ else if t=28 then ⟨0,0,0,0,0,0,0,16⟩ else if t=2∨t=5∨t=12 then ⟨1,0,0,0,0,0,0,0⟩ else if t=6 then ⟨2,2,5,4,0,0,0,0⟩ else
 if t=15 then ⟨1,0,1,2,0,0,0,0⟩ else if t=33 then ⟨1,0,3,2,0,0,0,0⟩ else if t=16 then ⟨0,0,0,0,-1,0,0,0⟩ else if t=257 then ⟨0,0,1,1,2,1,1,0⟩ else ⟨0,0,0,0,0,0,0,-2⟩
theorem fs_cases(t:Nat):(t=1/\fs t=⟨0,0,0,0,0,0,0,4⟩)∨(t=28/\fs t=⟨0,0,0,0,0,0,0,16⟩)∨((t=2∨t=5∨t=12)/\fs t=⟨1,0,0,0,0,0,0,0⟩)∨(t=6/\fs t=⟨2,2,5,4,0,0,0,0⟩) ∨
  (t=15/\fs t=⟨1,0,1,2,0,0,0,0⟩)∨(t=33/\fs t=⟨1,0,3,2,0,0,0,0⟩)∨(t=16/\fs t=⟨0,0,0,0,-1,0,0,0⟩)∨(t=257/\fs t=⟨0,0,1,1,2,1,1,0⟩) ∨
  ((t≠1/\t≠28/\t≠2/\t≠5/\t≠12/\t≠6/\t≠15/\t≠33/\t≠16/\t≠257)/\fs t=⟨0,0,0,0,0,0,0,-2⟩):=by
 unfold fs
 by_cases h1:t=1
 ·simp[h1]
 by_cases h2:t=28
 ·simp[h2]
 by_cases h3:t=2∨t=5∨t=12
 ·rcases h3 with h|h|h <;> simp[h]
 by_cases h4:t=6
 ·simp[h4]
 by_cases h5:t=15
 ·simp[h5]
 by_cases h6:t=33
 ·simp[h6]
 by_cases h7:t=16
 ·simp[h7]
 by_cases h8:t=257
 ·simp[h8]
 ·rw[if_neg h1,if_neg h2,if_neg h3,if_neg h4,if_neg h5,if_neg h6,if_neg h7,if_neg h8]
  simp only[not_or] at h3
  exact .inr (.inr (.inr (.inr (.inr (.inr (.inr (.inr ⟨⟨h1,h2,h3.1,h3.2.1,h3.2.2,h4,h5,h6,h7,h8⟩,rfl⟩)))))))
theorem fieldsof_any(t:Nat)(w:World):Calls Tryz.prog 138 #[.int .u16 t] w fun e w'=>e=.returned (.agg #[.int .i64 (fs t).nn,.int .i64 (fs t).nf,.int .i64 (fs t).nu,.int .i64 (fs t).wd,.int .i64 (fs t).nt,.int .i64 (fs t).tg,.int .i64 (fs t).tl,.int .i64 (fs t).nr])/\Hid (Below w.heap.size w w'):=by
 rcases fs_cases t with ⟨ht,e⟩|⟨ht,e⟩|⟨ht,e⟩|⟨ht,e⟩|⟨ht,e⟩|⟨ht,e⟩|⟨ht,e⟩|⟨ht,e⟩|⟨ht,e⟩
 ·subst ht;rw[e];clear e
  go_enter Tryz.func138,Tryz.ntmps138
  go_wp2_with fail
  exact bodyPost_ret (v:=.agg #[.int .i64 0,.int .i64 0,.int .i64 0,.int .i64 0,.int .i64 0,.int .i64 0,.int .i64 0,.int .i64 4]) (by simp[results,Tryz.results138,go_sem]) rfl ⟨rfl,(Below.refl _ _).alloc (Nat.le_refl _) _⟩
 ·subst ht;rw[e];clear e
  go_enter Tryz.func138,Tryz.ntmps138
  go_wp2_with fail
  exact bodyPost_ret (v:=.agg #[.int .i64 0,.int .i64 0,.int .i64 0,.int .i64 0,.int .i64 0,.int .i64 0,.int .i64 0,.int .i64 16]) (by simp[results,Tryz.results138,go_sem]) rfl ⟨rfl,(Below.refl _ _).alloc (Nat.le_refl _) _⟩
 ·rw[e];clear e
  rcases ht with rfl|rfl|rfl
  all_goals
   go_enter Tryz.func138,Tryz.ntmps138
   go_wp2_with fail
   exact bodyPost_ret (v:=.agg #[.int .i64 1,.int .i64 0,.int .i64 0,.int .i64 0,.int .i64 0,.int .i64 0,.int .i64 0,.int .i64 0]) (by simp[results,Tryz.results138,go_sem]) rfl ⟨rfl,(Below.refl _ _).alloc (Nat.le_refl _) _⟩
 ·subst ht;rw[e];clear e
  go_enter Tryz.func138,Tryz.ntmps138
  go_wp2_with fail
  exact bodyPost_ret (v:=.agg #[.int .i64 2,.int .i64 2,.int .i64 5,.int .i64 4,.int .i64 0,.int .i64 0,.int .i64 0,.int .i64 0]) (by simp[results,Tryz.results138,go_sem]) rfl ⟨rfl,(Below.refl _ _).alloc (Nat.le_refl _) _⟩
 ·subst ht;rw[e];clear e
  go_enter Tryz.func138,Tryz.ntmps138
  go_wp2_with fail
  exact bodyPost_ret (v:=.agg #[.int .i64 1,.int .i64 0,.int .i64 1,.int .i64 2,.int .i64 0,.int .i64 0,.int .i64 0,.int .i64 0]) (by simp[results,Tryz.results138,go_sem]) rfl ⟨rfl,(Below.refl _ _).alloc (Nat.le_refl _) _⟩
 ·subst ht;rw[e];clear e
  go_enter Tryz.func138,Tryz.ntmps138
  go_wp2_with fail
  exact bodyPost_ret (v:=.agg #[.int .i64 1,.int .i64 0,.int .i64 3,.int .i64 2,.int .i64 0,.int .i64 0,.int .i64 0,.int .i64 0]) (by simp[results,Tryz.results138,go_sem]) rfl ⟨rfl,(Below.refl _ _).alloc (Nat.le_refl _) _⟩
 ·subst ht;rw[e];clear e
  go_enter Tryz.func138,Tryz.ntmps138
  go_wp2_with fail
  exact bodyPost_ret (v:=.agg #[.int .i64 0,.int .i64 0,.int .i64 0,.int .i64 0,.int .i64 (-1),.int .i64 0,.int .i64 0,.int .i64 0]) (by simp[results,Tryz.results138,go_sem]) rfl ⟨rfl,(Below.refl _ _).alloc (Nat.le_refl _) _⟩
 ·subst ht;rw[e];clear e
  go_enter Tryz.func138,Tryz.ntmps138
  go_wp2_with fail
  exact bodyPost_ret (v:=.agg #[.int .i64 0,.int .i64 0,.int .i64 1,.int .i64 1,.int .i64 2,.int .i64 1,.int .i64 1,.int .i64 0]) (by simp[results,Tryz.results138,go_sem]) rfl ⟨rfl,(Below.refl _ _).alloc (Nat.le_refl _) _⟩
 ·rw[e];clear e
  obtain ⟨h1,h2,h3,h4,h5,h6,h7,h8,h9,h10⟩:=ht
  have q1:((t:Int) == 1)=false:=by simp;omega
  have q2:((t:Int) == 28)=false:=by simp;omega
  have q3:((t:Int) == 2)=false:=by simp;omega
  have q4:((t:Int) == 5)=false:=by simp;omega
  have q5:((t:Int) == 12)=false:=by simp;omega
  have q6:((t:Int) == 6)=false:=by simp;omega
  have q7:((t:Int) == 15)=false:=by simp;omega
  have q8:((t:Int) == 33)=false:=by simp;omega
  have q9:((t:Int) == 16)=false:=by simp;omega
  have q10:((t:Int) == 257)=false:=by simp;omega
  clear h1 h2 h3 h4 h5 h6 h7 h8 h9 h10
  go_enter Tryz.func138,Tryz.ntmps138
  go_wp2_with fail
  exact bodyPost_ret (v:=.agg #[.int .i64 0,.int .i64 0,.int .i64 0,.int .i64 0,.int .i64 0,.int .i64 0,.int .i64 0,.int .i64 (-2)]) (by simp[results,Tryz.results138,go_sem]) rfl ⟨rfl,(Below.refl _ _).alloc (Nat.le_refl _) _⟩
theorem asked_any(t:Int)(w:World):Calls Tryz.prog 150 #[.int .u16 t] w fun e w'=>e=.returned (.bool (decide (128<=t) && decide (t<=255)))/\w'=w:=by
 go_enter Tryz.func150,Tryz.ntmps150
 go_wp2
 all_goals
  go_ret
  refine ⟨ret_bool ?_,rfl⟩
  simp_all
  try omega
theorem hasdata_any(t:Nat)(w:World):Calls Tryz.prog 137 #[.int .u16 t] w fun e w'=>e=.returned (.bool (mayT t))/\w'=w:=by
 have HS:Hid (∀W,Calls Tryz.prog 134 #[.int .u16 t] W fun e w'=>e=.returned (.bool (decide (t≠0) && decide (t≠41) && (decide (t<128) || decide (255<t))))/\w'=W):=by
  intro W
  go_enter Tryz.func134,Tryz.ntmps134
  by_cases h0:t=0
  ·subst h0
   go_wp2_with fail
   go_ret
   exact ⟨ret_bool (by decide),rfl⟩
  ·by_cases h1:t=41
   ·subst h1
    go_wp2_with fail
    go_ret
    exact ⟨ret_bool (by decide),rfl⟩
   ·have q0:((t:Int) == 0)=false:=by simp;omega
    have q1:((t:Int) == 41)=false:=by simp;omega
    go_wp2_with fail
    refine (asked_any t _).mono ?_
    rintro e W ⟨rfl,rfl⟩
    go_wp2_with fail
    go_ret
    refine ⟨ret_bool ?_,rfl⟩
    simp[h0,h1]
    by_cases h2:t<128
    ·simp[h2];omega
    ·by_cases h3:255<t
     ·simp[h3];omega
     ·simp[h2,h3];omega
 go_enter Tryz.func137,Tryz.ntmps137
 by_cases h1:t=41
 ·subst h1
  go_wp2_with fail
  refine (HS.out _).mono ?_
  rintro e W ⟨rfl,rfl⟩
  go_wp2_with fail
  go_ret
  exact ⟨rfl,rfl⟩
 ·have q1:((t:Int) == 41)=false:=by simp;omega
  go_wp2_with fail
  refine (HS.out _).mono ?_
  rintro e W ⟨rfl,rfl⟩
  have hm:(decide (t≠0) && decide (t≠41) && (decide (t<128) || decide (255<t)))=mayT t:=by simp[mayT,h1]
  rw[hm]
  cases hmt:mayT t
  all_goals
   go_wp2_with fail
   go_ret
   exact ⟨ret_bool (by rw[hmt]),rfl⟩
def fitB(n:Nat)(c:Int):Bool:=if c = -1 then decide (0<n) else if c = -2 then true else decide ((n:Int)=c)
theorem pfits_any(n:Nat)(c:Int)(w:World):Calls Tryz.prog 159 #[.int .i64 n,.int .i64 c] w fun e w'=>e=.returned (.bool (fitB n c))/\w'=w:=by
 unfold fitB
 by_cases h1:c = -1
 ·subst h1
  rw[if_pos rfl]
  go_enter Tryz.func159,Tryz.ntmps159
  go_wp2_with fail
  go_ret
  exact ⟨ret_bool (by simp),rfl⟩
 rw[if_neg h1]
 have q1:(c == -1)=false:=by simp[h1]
 by_cases h2:c = -2
 ·subst h2
  rw[if_pos rfl]
  go_enter Tryz.func159,Tryz.ntmps159
  go_wp2_with fail
  go_ret
  exact ⟨rfl,rfl⟩
 rw[if_neg h2]
 have q2:(c == -2)=false:=by simp[h2]
 go_enter Tryz.func159,Tryz.ntmps159
 go_wp2_with fail
 go_ret
 exact ⟨ret_bool (by by_cases h:(n:Int)=c <;> simp[h]),rfl⟩
def FBox(w:World)(b:Nat)(f:Fs):Prop:=
 w.cell? ⟨b,0,none⟩=some (.int .i64 f.nn)/\w.cell? ⟨b,1,none⟩=some (.int .i64 f.nf)/\w.cell? ⟨b,2,none⟩=some (.int .i64 f.nu)/\w.cell? ⟨b,3,none⟩=some (.int .i64 f.wd)/\w.cell? ⟨b,4,none⟩=some (.int .i64 f.nt)/\w.cell? ⟨b,5,none⟩=some (.int .i64 f.tg)/\w.cell? ⟨b,6,none⟩=some (.int .i64 f.tl)/\w.cell? ⟨b,7,none⟩=some (.int .i64 f.nr)/\b<w.heap.size
theorem FBox.new(w:World)(f:Fs):FBox (w.alloc (.cells #[.int .i64 f.nn,.int .i64 f.nf,.int .i64 f.nu,.int .i64 f.wd,.int .i64 f.nt,.int .i64 f.tg,.int .i64 f.tl,.int .i64 f.nr] 201)) w.heap.size f:=by
 refine ⟨?_,?_,?_,?_,?_,?_,?_,?_,by simp⟩ <;> (unfold World.cell?;rw[heap_alloc_new];rfl)
theorem FBox.below{w w':World}{b:Nat}{f:Fs}(h:FBox w b f)(hb:Below w.heap.size w w'):FBox w' b f:=by
 obtain ⟨h0,h1,h2,h3,h4,h5,h6,h7,hl⟩:=h
 exact ⟨(hb.cell (p:=⟨b,0,none⟩) hl).trans h0,(hb.cell (p:=⟨b,1,none⟩) hl).trans h1,(hb.cell (p:=⟨b,2,none⟩) hl).trans h2,(hb.cell (p:=⟨b,3,none⟩) hl).trans h3,(hb.cell (p:=⟨b,4,none⟩) hl).trans h4,(hb.cell (p:=⟨b,5,none⟩) hl).trans h5,(hb.cell (p:=⟨b,6,none⟩) hl).trans h6,(hb.cell (p:=⟨b,7,none⟩) hl).trans h7,Nat.lt_of_lt_of_le hl hb.size⟩
def PtSt(w W:World)(b:Nat)(f:Fs)(x:DA)(d:Dat):Prop:=FBox W b f/\DBox W (b+1) x/\DRd W x d/\Below w.heap.size w W
theorem PtSt.new(w:World)(f:Fs)(x:DA)(d:Dat)(h:DRd w x d):PtSt w ((w.alloc (.cells #[.int .i64 f.nn,.int .i64 f.nf,.int .i64 f.nu,.int .i64 f.wd,.int .i64 f.nt,.int .i64 f.tg,.int .i64 f.tl,.int .i64 f.nr] 201)).alloc (.cells #[.slice x.p1.a x.p1.n x.p1.c,.slice x.p2.a x.p2.n x.p2.c,.slice x.p3.a x.p3.n x.p3.c,.slice x.p4.a x.p4.n x.p4.c] 48)) w.heap.size f x d:=by
 have hb1:Below w.heap.size w (w.alloc (.cells #[.int .i64 f.nn,.int .i64 f.nf,.int .i64 f.nu,.int .i64 f.wd,.int .i64 f.nt,.int .i64 f.tg,.int .i64 f.tl,.int .i64 f.nr] 201)):=(Below.refl _ _).alloc (Nat.le_refl _) _
 have HX:=FBox.new w f
 have hx1:=h.below hb1
 obtain ⟨W0,hW0⟩:∃W,W=w.alloc (.cells #[.int .i64 f.nn,.int .i64 f.nf,.int .i64 f.nu,.int .i64 f.wd,.int .i64 f.nt,.int .i64 f.tg,.int .i64 f.tl,.int .i64 f.nr] 201):=⟨_,rfl⟩
 have hs0:W0.heap.size=w.heap.size+1:=by rw[hW0];simp
 rw[<- hW0] at hb1 HX hx1 ⊢
 have hb2:Below W0.heap.size W0 (W0.alloc (.cells #[.slice x.p1.a x.p1.n x.p1.c,.slice x.p2.a x.p2.n x.p2.c,.slice x.p3.a x.p3.n x.p3.c,.slice x.p4.a x.p4.n x.p4.c] 48)):=(Below.refl _ _).alloc (Nat.le_refl _) _
 have HY:=DBox.new W0 x
 rw[hs0] at HY
 exact ⟨HX.below hb2,HY,hx1.below hb2,hb1.trans (hb2.mono hb1.size)⟩
def cntB(f:Fs)(d:Dat):Bool:=fitB d.ns.length f.nn && fitB d.us.length f.nu && fitB d.ts.length f.nt && fitB d.raw.length f.nr
theorem counted_any(f:Fs)(x:DA)(d:Dat)(w:World)(h:DRd w x d) :
  Calls Tryz.prog 139 #[.agg #[.int .i64 f.nn,.int .i64 f.nf,.int .i64 f.nu,.int .i64 f.wd,.int .i64 f.nt,.int .i64 f.tg,.int .i64 f.tl,.int .i64 f.nr],.agg #[.slice x.p1.a x.p1.n x.p1.c,.slice x.p2.a x.p2.n x.p2.c,.slice x.p3.a x.p3.n x.p3.c,.slice x.p4.a x.p4.n x.p4.c]] w fun e w'=>e=.returned (.bool (cntB f d))/\Hid (Below w.heap.size w w'):=by
 have H:Hid (PtSt w ((w.alloc (.cells #[.int .i64 f.nn,.int .i64 f.nf,.int .i64 f.nu,.int .i64 f.wd,.int .i64 f.nt,.int .i64 f.tg,.int .i64 f.tl,.int .i64 f.nr] 201)).alloc (.cells #[.slice x.p1.a x.p1.n x.p1.c,.slice x.p2.a x.p2.n x.p2.c,.slice x.p3.a x.p3.n x.p3.c,.slice x.p4.a x.p4.n x.p4.c] 48)) w.heap.size f x d):=PtSt.new w f x d h
 have l1:=h.h1.len
 have l2:=h.h2.len
 have l3:=h.h3.len
 have l4:=h.h4.len
 clear h
 unfold cntB
 rw[l1,l2,l3,l4]
 clear l1 l2 l3 l4
 obtain ⟨nn,nf,nu,wd,nt,tg,tl,nr⟩:=f
 obtain ⟨⟨a1,n1,k1⟩,⟨a2,n2,k2⟩,⟨a3,n3,k3⟩,⟨a4,n4,k4⟩⟩:=x
 simp only at H ⊢
 go_enter Tryz.func139,Tryz.ntmps139
 go_upto_region 1 with fail
 generalize ((w.alloc (.cells #[.int .i64 nn,.int .i64 nf,.int .i64 nu,.int .i64 wd,.int .i64 nt,.int .i64 tg,.int .i64 tl,.int .i64 nr] 201)).alloc (.cells #[.slice a1 n1 k1,.slice a2 n2 k2,.slice a3 n3 k3,.slice a4 n4 k4] 48))=W1 at*
 have s0:=H.out.1.1
 have s2:=H.out.1.2.2.1
 have s4:=H.out.1.2.2.2.2.1
 have s7:=H.out.1.2.2.2.2.2.2.2.1
 have c0:=H.out.2.1.1
 have c1:=H.out.2.1.2.1
 have c2:=H.out.2.1.2.2.1
 have c3:=H.out.2.1.2.2.2.1
 simp only at s0 s2 s4 s7 c0 c1 c2 c3
 go_wp2_with fail
 refine (pfits_any n1 nn _).mono ?_
 rintro e W ⟨rfl,rfl⟩
 cases hfn1:fitB n1 nn with
 |false=>
  go_wp2_with fail
  go_ret
  exact ⟨ret_bool (by simp[*]),H.out.2.2.2⟩
 |true=>
  go_wp2_with fail
  refine (pfits_any n2 nu _).mono ?_
  rintro e W ⟨rfl,rfl⟩
  cases hfn2:fitB n2 nu with
  |false=>
   go_wp2_with fail
   go_ret
   exact ⟨ret_bool (by simp[*]),H.out.2.2.2⟩
  |true=>
   go_wp2_with fail
   refine (pfits_any n3 nt _).mono ?_
   rintro e W ⟨rfl,rfl⟩
   cases hfn3:fitB n3 nt with
   |false=>
    go_wp2_with fail
    go_ret
    exact ⟨ret_bool (by simp[*]),H.out.2.2.2⟩
   |true=>
    go_wp2_with fail
    refine (pfits_any n4 nr _).mono ?_
    rintro e W ⟨rfl,rfl⟩
    go_wp2_with fail
    go_ret
    exact ⟨ret_bool (by simp[*]),H.out.2.2.2⟩
theorem call96(s:ByteArray)(c:Int)(w:World):(callFunc 96 #[.string s,.int .u8 c]).run Tryz.prog w=.ok (.value (.int .i64 (Lib.indexByte s.data.toList c.toNat.toUInt8))) w:=by
 rw[run_callFunc_extern Tryz.func96 (by kernel_rfl) (by kernel_rfl) (by kernel_rfl) (by kernel_rfl) _ w]
 show ((Extern.BytealgIndexByte.indexByte #[.string s,.int .u8 c]).run Tryz.prog w).andThen _=_
 rw[Lib.run_indexByteString]
 rfl
theorem sidx_any(s:ByteArray)(c:Int)(w:World):Calls Tryz.prog 74 #[.string s,.int .u8 c] w fun e w'=>e=.returned (.int .i64 (Lib.indexByte s.data.toList c.toNat.toUInt8))/\w'=w:=by
 have h:=call96 s c
 go_enter Tryz.func74,Tryz.ntmps74
 go_wp2
 go_ret
 exact ⟨rfl,rfl⟩
theorem idx_any(s:ByteArray)(c:Int)(w:World):Calls Tryz.prog 80 #[.string s,.int .u8 c] w fun e w'=>e=.returned (.int .i64 (Lib.indexByte s.data.toList c.toNat.toUInt8))/\w'=w:=by
 go_enter Tryz.func80,Tryz.ntmps80
 go_wp2_with fail
 refine (sidx_any s c _).mono ?_
 rintro e w1 ⟨rfl,rfl⟩
 go_wp2
 go_ret
 exact ⟨rfl,rfl⟩
def tagged:List UInt8:=[97,98,99,100,101,102,103,104,105,106,107,108,109,110,111,112,113,114,115,116,117,118,119,120,121,122,65,66,67,68,69,70,71,72,73,74,75,76,77,78,79,80,81,82,83,84,85,86,87,88,89,90,48,49,50,51,52,53,54,55,56,57]
theorem tagged_idx:∀n:Fin 256,decide (Lib.indexByte tagged n.val.toUInt8<0)=!alnum (n.val:Int):=by decide +kernel
theorem idx_tag(c:Int)(h0:0<=c)(h1:c<=255)(w:World):Calls Tryz.prog 80 #[.string { data:=#[97,98,99,100,101,102,103,104,105,106,107,108,109,110,111,112,113,114,115,116,117,118,119,120,121,122,65,66,67,68,69,70,71,72,73,74,75,76,77,78,79,80,81,82,83,84,85,86,87,88,89,90,48,49,50,51,52,53,54,55,56,57] },.int .u8 c] w fun e w'=>∃k,e=.returned (.int .i64 k)/\Hid (decide (k<0)=!alnum c)/\w'=w:=by
 refine (idx_any _ c w).mono ?_
 rintro e w1 ⟨rfl,rfl⟩
 refine ⟨_,rfl,?_,rfl⟩
 have:=tagged_idx ⟨c.toNat,by omega⟩
 simp only at this
 rw[Int.toNat_of_nonneg h0] at this
 exact this
theorem istag_any(s:ByteArray)(hs:s.size<=9223372036854775807)(w:World):Calls Tryz.prog 160 #[.string s] w fun e w'=>e=.returned (.bool (tagB s))/\w'=w:=by
 by_cases h1:s.size=0
 ·have HE:Hid (tagB s=false):=by show _=_;simp[tagB];omega
  have h1':((s.size:Int) == 0)=true:=by rw[beq_iff_eq];omega
  go_enter Tryz.func160,Tryz.ntmps160
  go_wp2_with fail
  go_ret
  exact ⟨by rw[HE.out];rfl,rfl⟩
 ·have h1':((s.size:Int) == 0)=false:=by rw[beq_eq_false_iff_ne];omega
  by_cases h2:15<s.size
  ·have HE:Hid (tagB s=false):=by show _=_;simp[tagB];omega
   have h2':(15:Int)<(s.size:Int):=by omega
   go_enter Tryz.func160,Tryz.ntmps160
   go_wp2_with fail
   go_ret
   exact ⟨by rw[HE.out];rfl,rfl⟩
  ·have h2':¬ (15:Int)<(s.size:Int):=by omega
   have HT:Hid (tagB s=(nums s).all alnum):=by show _=_;simp[tagB];intro _;omega
   go_enter Tryz.func160,Tryz.ntmps160
   go_wp2_with fail
   go_loopw [14] (fun v wr=>wr=w/\∃k:Nat,k<=s.size/\v=.int .i64 (k:Int)/\Hid (∀z∈(nums s).take k,alnum z=true)) (fun v _=>s.size - (intOf v).toNat)
   case atStart=>exact ⟨rfl,0,Nat.zero_le _,rfl,by intro y hy;simp at hy⟩
   case round=>
    obtain ⟨hwr,k,hk,rfl,HF⟩:=hrel
    subst hwr
    by_cases hlt:k<s.size
    ·have hlt':(k:Int)<(s.size:Int):=by omega
     have hbd:=nums_bd s k
     have hki:k<(nums s).length:=by rw[nums_len];exact hlt
     have hat:=nums_at s k hlt
     rw[hat] at hbd
     have HA:Hid (∃h:k<(nums s).length,(nums s)[k]=(s[k].toNat:Int)):=by
      refine ⟨hki,?_⟩
      have:(nums s).getD k 0=(nums s)[k]:=by simp[List.getD_eq_getElem?_getD,hki]
      rw[<- this,hat]
     clear hat hki
     obtain ⟨c,hc⟩:∃c:Int,(s[k].toNat:Int)=c:=⟨_,rfl⟩
     rw[hc] at hbd HA
     go_wp2_with fail
     first|simp only[hc]|skip
     refine (idx_tag c hbd.1 hbd.2 _).mono ?_
     rintro e w1 ⟨j,rfl,HJ,rfl⟩
     cases hal:alnum c with
     |true=>
      have HF2:Hid (∀z∈(nums s).take (k+1),alnum z=true):=by
       intro z hz
       obtain ⟨hin,hav⟩:=HA.out
       rw[List.take_succ_eq_append_getElem hin] at hz
       simp only[List.mem_append,List.mem_singleton] at hz
       rcases hz with hz|hz
       ·exact HF.out z hz
       ·subst hz;rw[hav];exact hal
      have hj:¬ j<0:=by have:=HJ.out;rw[hal] at this;simpa using this
      clear HF hal HJ
      go_wp2_with fail
      exact ⟨⟨by first|rfl|trivial,k+1,by omega,by go_num,HF2⟩,by simp[intOf];omega⟩
     |false=>
      have HE:Hid (tagB s=false):=by
       show _=_
       rw[HT.out,<- Bool.not_eq_true]
       intro hall
       obtain ⟨hin,hav⟩:=HA.out
       have:=List.all_eq_true.1 hall (nums s)[k] (List.getElem_mem hin)
       rw[hav,hal] at this
       cases this
      have hj:j<0:=by have:=HJ.out;rw[hal] at this;simpa using this
      clear HF hal HT HJ
      go_wp2_with fail
      go_ret
      exact ⟨by rw[HE.out];rfl,rfl⟩
    ·have hge:¬ (k:Int)<(s.size:Int):=by omega
     have HE:Hid (tagB s=true):=by
      have:=HF.out
      rw[List.take_of_length_le (by rw[nums_len];omega)] at this
      show _=_
      rw[HT.out]
      exact List.all_eq_true.2 this
     clear HF HT
     go_wp2_with fail
     go_ret
     exact ⟨by rw[HE.out];rfl,rfl⟩
def wthB(f:Fs)(d:Dat):Bool:=d.us.all (fun n=>decide (n / 2 ^ (8*f.wd)=0)) && (d.ts.take f.tg).all tagB && (d.ts.take (d.ts.length - f.tl)).all (fun s=>decide (s.size<=255))
theorem all_cut{α:Type}(l:List α)(p:α->Bool)(k:Nat)(hk:k<l.length)(h:p l[k]=false):l.all p=false:=by
 rw[<- Bool.not_eq_true]
 intro hall
 have:=List.all_eq_true.1 hall l[k] (List.getElem_mem hk)
 rw[h] at this
 cases this
theorem all_next{α:Type}(l:List α)(p:α->Bool)(k:Nat)(hk:k<l.length)(h:p l[k]=true)(hf:∀z∈l.take k,p z=true):∀z∈l.take (k+1),p z=true:=by
 intro z hz
 rw[List.take_succ_eq_append_getElem hk] at hz
 simp only[List.mem_append,List.mem_singleton] at hz
 rcases hz with hz|hz
 ·exact hf z hz
 ·subst hz;exact h
theorem within_any (f : Fs) (x : DA) (d : Dat) (w : World) (h : DRd w x d) (hwd : f.wd = 0 ∨ f.wd = 1 ∨ f.wd = 2 ∨ f.wd = 4) (htg : f.tg <= d.ts.length) (htl : f.tl <= d.ts.length) :
    Calls Tryz.prog 140 #[.agg #[.int .i64 f.nn, .int .i64 f.nf, .int .i64 f.nu, .int .i64 f.wd, .int .i64 f.nt, .int .i64 f.tg, .int .i64 f.tl, .int .i64 f.nr], .agg #[.slice x.p1.a x.p1.n x.p1.c, .slice x.p2.a x.p2.n x.p2.c, .slice x.p3.a x.p3.n x.p3.c, .slice x.p4.a x.p4.n x.p4.c]] w fun e w' => e = .returned (.bool (wthB f d)) /\ Hid (Below w.heap.size w w') := by
  have H : Hid (PtSt w ((w.alloc (.cells #[.int .i64 f.nn, .int .i64 f.nf, .int .i64 f.nu, .int .i64 f.wd, .int .i64 f.nt, .int .i64 f.tg, .int .i64 f.tl, .int .i64 f.nr] 201)).alloc (.cells #[.slice x.p1.a x.p1.n x.p1.c, .slice x.p2.a x.p2.n x.p2.c, .slice x.p3.a x.p3.n x.p3.c, .slice x.p4.a x.p4.n x.p4.c] 48)) w.heap.size f x d) := PtSt.new w f x d h
  have l2 := h.h2.len
  have l3 := h.h3.len
  have HC : Hid (x.p2.n <= 9223372036854775807 /\ x.p3.n <= x.p3.c /\ x.p3.c <= 9223372036854775807) := ⟨Nat.le_trans h.h2.cap.1 h.h2.cap.2, h.h3.cap.1, h.h3.cap.2⟩
  clear h
  obtain ⟨nn, nf, nu, wd, nt, tg, tl, nr⟩ := f
  obtain ⟨⟨a1, n1, k1⟩, ⟨a2, n2, k2⟩, ⟨a3, n3, k3⟩, ⟨a4, n4, k4⟩⟩ := x
  simp only at H l2 l3 HC hwd htg htl ⊢
  have hk3 := HC.out.2
  have hn2 := HC.out.1
  have htg' : tg <= n3 := by omega
  have htl' : tl <= n3 := by omega
  have HW : Hid (wthB ⟨nn, nf, nu, wd, nt, tg, tl, nr⟩ d = (d.us.all (fun n => decide (n / 2 ^ (8 * wd) = 0)) && (d.ts.take tg).all tagB && (d.ts.take (n3 - tl)).all (fun s => decide (s.size <= 255)))) := by
    show _ = _
    unfold wthB
    rw [l3]
  have HL : Hid (d.us.length = n2 /\ d.ts.length = n3) := ⟨l2, l3⟩
  obtain ⟨R, hR⟩ : ∃ R, wthB ⟨nn, nf, nu, wd, nt, tg, tl, nr⟩ d = R := ⟨_, rfl⟩
  rw [hR] at HW ⊢
  clear hR l2 l3 htg htl HC
  go_enter Tryz.func140, Tryz.ntmps140
  go_upto_region 1 with fail
  generalize ((w.alloc (.cells #[.int .i64 nn, .int .i64 nf, .int .i64 nu, .int .i64 wd, .int .i64 nt, .int .i64 tg, .int .i64 tl, .int .i64 nr] 201)).alloc (.cells #[.slice a1 n1 k1, .slice a2 n2 k2, .slice a3 n3 k3, .slice a4 n4 k4] 48)) = W1 at *
  obtain ⟨b, hb⟩ : ∃ b, b = w.heap.size := ⟨_, rfl⟩
  rw [<- hb] at H ⊢
  have Hb : Hid (b = w.heap.size) := hb
  clear hb
  have s3 := H.out.1.2.2.2.1
  have c1 := H.out.2.1.2.1
  simp only at s3 c1
  go_wp2_with fail
  go_loopw [14] (fun v wr => wr = W1 /\ ∃ k : Nat, k <= n2 /\ v = .int .i64 (k : Int) /\ Hid (∀ z ∈ d.us.take k, decide (z / 2 ^ (8 * wd) = 0) = true)) (fun v _ => n2 - (intOf v).toNat)
  case atStart => exact ⟨rfl, 0, Nat.zero_le _, rfl, by intro y hy; simp at hy⟩
  case round =>
    obtain ⟨hwr, k, hk, rfl, HF⟩ := hrel
    subst hwr
    by_cases hlt : k < n2
    · have hlt' : (k : Int) < (n2 : Int) := by omega
      have hki : k < d.us.length := by rw [HL.out.1]; exact hlt
      obtain ⟨B2, o2, ha2, hl2, hz2⟩ := H.out.2.2.1.h2.at k hki
      have hub := H.out.2.2.1.h2.bd _ (List.getElem_mem hki)
      simp only at ha2
      subst ha2
      have HN : Hid (decide (d.us[k] / 2 ^ (8 * wd) = 0) = true -> ∀ z ∈ d.us.take (k + 1), decide (z / 2 ^ (8 * wd) = 0) = true) := fun hh => all_next d.us _ k hki hh HF.out
      have HX : Hid (decide (d.us[k] / 2 ^ (8 * wd) = 0) = false -> R = false) := by
        intro hh
        have := HW.out
        rw [all_cut d.us (fun n => decide (n / 2 ^ (8 * wd) = 0)) k hki hh] at this
        simpa using this
      clear HF
      generalize d.us[k] = u at *
      have hq : ∀ m : Nat, ((u : Int) / ((2 ^ m : Nat) : Int)) = ((u / 2 ^ m : Nat) : Int) := by intro m; simp
      by_cases hu : u / 2 ^ (8 * wd) = 0
      · have HF2 := HN.out (decide_eq_true hu)
        have HF3 : Hid (∀ z ∈ d.us.take (k + 1), decide (z / 2 ^ (8 * wd) = 0) = true) := HF2
        clear HF2 HN HX
        rcases hwd with e | e | e | e
        all_goals
          subst e
          simp at hu
          go_wp2_with fail
          exact ⟨⟨by first | rfl | trivial, k + 1, by omega, by go_num, HF3⟩, by simp [intOf]; omega⟩
      · have HE : Hid (R = false) := HX.out (decide_eq_false hu)
        clear HN HX HW
        rcases hwd with e | e | e | e
        all_goals
          subst e
          simp at hu
          first
          | omega
          | (go_wp2_with fail
             go_ret
             exact ⟨by rw [HE.out]; rfl, H.out.2.2.2⟩)
    · have hge : ¬ (k : Int) < (n2 : Int) := by omega
      have HU : Hid (d.us.all (fun n => decide (n / 2 ^ (8 * wd) = 0)) = true) := by
        have := HF.out
        rw [List.take_of_length_le (by rw [HL.out.1]; omega)] at this
        exact List.all_eq_true.2 this
      clear HF
      have s5 := H.out.1.2.2.2.2.2.1
      have c2 := H.out.2.1.2.2.1
      simp only at s5 c2
      clear s3 c1 hwd
      go_wp2_with fail
      obtain ⟨wz, hz⟩ : ∃ z, z = wr := ⟨_, rfl⟩
      subst hz
      go_loopw [31] (fun v wr => wr = wz /\ ∃ k : Nat, k <= tg /\ v = .int .i64 (k : Int) /\ Hid (∀ z ∈ (d.ts.take tg).take k, tagB z = true)) (fun v _ => tg - (intOf v).toNat)
      case atStart => exact ⟨rfl, 0, Nat.zero_le _, rfl, by intro y hy; simp at hy⟩
      case round =>
        obtain ⟨hwr, j, hj, rfl, HF⟩ := hrel
        subst hwr
        by_cases hjt : j < tg
        · have hjt' : (j : Int) < (tg : Int) := by omega
          have hji : j < d.ts.length := by rw [HL.out.2]; omega
          have hjj : j < (d.ts.take tg).length := by rw [List.length_take]; omega
          obtain ⟨B3, o3, ha3, hl3, hy3⟩ := H.out.2.2.1.h3.rd.at j hji
          have hsz := H.out.2.2.1.h3.z63 _ (List.getElem_mem hji)
          simp only at ha3
          subst ha3
          have hjs : (d.ts.take tg)[j] = d.ts[j] := by simp
          have HN : Hid (tagB d.ts[j] = true -> ∀ z ∈ (d.ts.take tg).take (j + 1), tagB z = true) := fun hh => all_next (d.ts.take tg) tagB j hjj (by rw [hjs]; exact hh) HF.out
          have HX : Hid (tagB d.ts[j] = false -> R = false) := by
            intro hh
            have := HW.out
            rw [all_cut (d.ts.take tg) tagB j hjj (by rw [hjs]; exact hh)] at this
            simpa using this
          clear HF hjs hjj
          generalize d.ts[j] = s at *
          go_wp2_with fail
          refine (istag_any s hsz _).mono ?_
          rintro e Wx ⟨rfl, rfl⟩
          cases htb : tagB s with
          | true =>
            have HF2 : Hid (∀ z ∈ (d.ts.take tg).take (j + 1), tagB z = true) := HN.out htb
            clear HN HX htb
            go_wp2_with fail
            exact ⟨⟨by first | rfl | trivial, j + 1, by omega, by go_num, HF2⟩, by simp [intOf]; omega⟩
          | false =>
            have HE : Hid (R = false) := HX.out htb
            clear HN HX htb
            go_wp2_with fail
            go_ret
            exact ⟨by rw [HE.out]; rfl, H.out.2.2.2⟩
        · have hge2 : ¬ (j : Int) < (tg : Int) := by omega
          have HT : Hid ((d.ts.take tg).all tagB = true) := by
            have := HF.out
            rw [List.take_of_length_le (by rw [List.length_take]; omega)] at this
            exact List.all_eq_true.2 this
          clear HF
          have s6 := H.out.1.2.2.2.2.2.2.1
          simp only at s6
          obtain ⟨m, hm⟩ : ∃ m : Nat, m = n3 - tl := ⟨_, rfl⟩
          have hmi : (n3 : Int) - (tl : Int) = (m : Int) := by omega
          have hmw : IntKind.i64.wrap ((n3 : Int) - (tl : Int)) = (m : Int) := by rw [hmi, IntKind.wrap_i64]; omega
          have HM : Hid (m = n3 - tl) := hm
          have hmn : m <= n3 := by omega
          clear hm hmi s5
          go_wp2_with fail
          obtain ⟨wy, hz⟩ : ∃ z, z = wr := ⟨_, rfl⟩
          subst hz
          go_loopw [49] (fun v wr => wr = wy /\ ∃ k : Nat, k <= m /\ v = .int .i64 (k : Int) /\ Hid (∀ z ∈ (d.ts.take m).take k, decide (z.size <= 255) = true)) (fun v _ => m - (intOf v).toNat)
          case atStart => exact ⟨rfl, 0, Nat.zero_le _, rfl, by intro y hy; simp at hy⟩
          case round =>
            obtain ⟨hwr, i, hi, rfl, HF⟩ := hrel
            subst hwr
            by_cases hit : i < m
            · have hit' : (i : Int) < (m : Int) := by omega
              have hii : i < d.ts.length := by rw [HL.out.2]; omega
              have hij : i < (d.ts.take m).length := by rw [List.length_take]; omega
              obtain ⟨B3, o3, ha3, hl3, hy3⟩ := H.out.2.2.1.h3.rd.at i hii
              simp only at ha3
              subst ha3
              have his : (d.ts.take m)[i] = d.ts[i] := by simp
              by_cases hz : (255 : Int) < (d.ts[i].size : Int)
              · have HE : Hid (R = false) := by
                  have := HW.out
                  show R = false
                  rw [<- HM.out, all_cut (d.ts.take m) (fun s => decide (s.size <= 255)) i hij (by rw [his]; exact decide_eq_false (by omega))] at this
                  simpa using this
                clear HF HW
                generalize d.ts[i] = s at *
                go_wp2_with fail
                go_ret
                exact ⟨by rw [HE.out]; rfl, H.out.2.2.2⟩
              · have HF2 : Hid (∀ z ∈ (d.ts.take m).take (i + 1), decide (z.size <= 255) = true) := all_next (d.ts.take m) (fun z => decide (z.size <= 255)) i hij (by rw [his]; exact decide_eq_true (by omega)) HF.out
                clear HF his
                generalize d.ts[i] = s at *
                go_wp2_with fail
                exact ⟨⟨by first | rfl | trivial, i + 1, by omega, by go_num, HF2⟩, by simp [intOf]; omega⟩
            · have hge3 : ¬ (i : Int) < (m : Int) := by omega
              have HE : Hid (R = true) := by
                have h1 := HF.out
                rw [List.take_of_length_le (by rw [List.length_take]; omega)] at h1
                have h2 := HW.out
                rw [HU.out, HT.out, <- HM.out, List.all_eq_true.2 h1] at h2
                show R = true
                simpa using h2
              clear HF HW
              go_wp2_with fail
              go_ret
              exact ⟨by rw [HE.out]; rfl, H.out.2.2.2⟩
theorem sum_snoc'(l:List Nat)(n:Nat):(l++[n]).sum=l.sum+n:=by simp
theorem sum_take'(l:List Nat)(k:Nat):(l.take k).sum<=l.sum:=by
 induction l generalizing k with
 |nil=>simp
 |cons x l ih=>
  cases k with
  |zero=>simp
  |succ k=>simp;exact ih k
def nsum(d:Dat):Nat:=(d.ns.map nsz).sum
def tz(s:ByteArray):Nat:=1+s.size
def tsum(d:Dat):Nat:=(d.ts.map tz).sum
def pszI(f:Fs)(d:Dat):Int:=((f.wd*d.us.length:Nat):Int)+(d.raw.length:Int) - (f.tl:Int)+(nsum d:Int)+(tsum d:Int)
theorem psize5_any(f:Fs)(x:DA)(d:Dat)(w:World)(h:DRd w x d)(htl:f.tl<=1)(hB:f.wd*d.us.length+d.raw.length+nsum d+tsum d<=1000000000000000) :
  Calls Tryz.prog 141 #[.agg #[.int .i64 f.nn,.int .i64 f.nf,.int .i64 f.nu,.int .i64 f.wd,.int .i64 f.nt,.int .i64 f.tg,.int .i64 f.tl,.int .i64 f.nr],.agg #[.slice x.p1.a x.p1.n x.p1.c,.slice x.p2.a x.p2.n x.p2.c,.slice x.p3.a x.p3.n x.p3.c,.slice x.p4.a x.p4.n x.p4.c]] w fun e w'=>e=.returned (.int .i64 (pszI f d))/\Hid (Below w.heap.size w w'):=by
 have H:Hid (PtSt w ((w.alloc (.cells #[.int .i64 f.nn,.int .i64 f.nf,.int .i64 f.nu,.int .i64 f.wd,.int .i64 f.nt,.int .i64 f.tg,.int .i64 f.tl,.int .i64 f.nr] 201)).alloc (.cells #[.slice x.p1.a x.p1.n x.p1.c,.slice x.p2.a x.p2.n x.p2.c,.slice x.p3.a x.p3.n x.p3.c,.slice x.p4.a x.p4.n x.p4.c] 48)) w.heap.size f x d):=PtSt.new w f x d h
 have l1:=h.h1.len
 have l2:=h.h2.len
 have l3:=h.h3.len
 have l4:=h.h4.len
 have hc1:x.p1.n<=9223372036854775807:=Nat.le_trans h.h1.cap.1 h.h1.cap.2
 have hc3:x.p3.n<=9223372036854775807:=Nat.le_trans h.h3.cap.1 h.h3.cap.2
 clear h
 obtain ⟨nn,nf,nu,wd,nt,tg,tl,nr⟩:=f
 obtain ⟨⟨a1,n1,k1⟩,⟨a2,n2,k2⟩,⟨a3,n3,k3⟩,⟨a4,n4,k4⟩⟩:=x
 simp only at H l1 l2 l3 l4 hc1 hc3 htl hB ⊢
 obtain ⟨Z,hZ⟩:∃Z,pszI ⟨nn,nf,nu,wd,nt,tg,tl,nr⟩ d=Z:=⟨_,rfl⟩
 rw[hZ]
 obtain ⟨P,hP⟩:∃P,wd*n2=P:=⟨_,rfl⟩
 have HZ:Hid (Z=(P:Int)+(n4:Int) - (tl:Int)+(nsum d:Int)+(tsum d:Int)):=by
  show Z=_
  rw[<- hZ]
  unfold pszI
  rw[l4,l2,hP]
 have hB':P+n4+nsum d+tsum d<=1000000000000000:=by rw[<- hP,<- l2,<- l4];exact hB
 have HL:Hid (d.ns.length=n1/\d.ts.length=n3):=⟨l1,l3⟩
 have hPi:(wd:Int)*(n2:Int)=(P:Int):=by rw[<- hP];simp
 clear hZ l1 l2 l3 l4 hP hB
 have w1:IntKind.i64.wrap ((wd:Int)*(n2:Int))=(P:Int):=by rw[hPi,IntKind.wrap_i64];omega
 have w2:IntKind.i64.wrap ((P:Int)+(n4:Int))=(P:Int)+(n4:Int):=by rw[IntKind.wrap_i64];omega
 have w2':IntKind.i64.wrap ((P:Int)+(n4:Int) - (tl:Int))=(P:Int)+(n4:Int) - (tl:Int):=by rw[IntKind.wrap_i64];omega
 clear hPi
 go_enter Tryz.func141,Tryz.ntmps141
 go_upto_region 1 with fail
 generalize ((w.alloc (.cells #[.int .i64 nn,.int .i64 nf,.int .i64 nu,.int .i64 wd,.int .i64 nt,.int .i64 tg,.int .i64 tl,.int .i64 nr] 201)).alloc (.cells #[.slice a1 n1 k1,.slice a2 n2 k2,.slice a3 n3 k3,.slice a4 n4 k4] 48))=W1 at*
 obtain ⟨b,hb⟩:∃b,b=w.heap.size:=⟨_,rfl⟩
 rw[<- hb] at H ⊢
 have Hb:Hid (b=w.heap.size):=hb
 clear hb
 have s3:=H.out.1.2.2.2.1
 have s6:=H.out.1.2.2.2.2.2.2.1
 have c0:=H.out.2.1.1
 have c1:=H.out.2.1.2.1
 have c3:=H.out.2.1.2.2.2.1
 simp only at s3 s6 c0 c1 c3
 go_wp2_with fail
 clear s3 s6 c1 c3 w1 w2 w2'
 go_loopw [5,26] (fun v i wr=>wr=W1/\∃(k:Nat) (A:Int),k<=n1/\i=.int .i64 (k:Int)/\v=.int .i64 A/\(-1<=A/\A<=1000000000000000)/\Hid (A=(P:Int)+(n4:Int) - (tl:Int)+((((d.ns.map nsz).take k).sum:Nat):Int))) (fun _ i _=>n1 - (intOf i).toNat)
 case atStart=>exact ⟨rfl,0,(P:Int)+(n4:Int) - (tl:Int),Nat.zero_le _,rfl,by first|rfl|simp,by omega,by show _=_;simp⟩
 case round=>
  obtain ⟨hwr,k,A,hk,rfl,rfl,hA,HA⟩:=hrel
  subst hwr
  by_cases hlt:k<n1
  ·have hlt':(k:Int)<(n1:Int):=by omega
   have hki:k<d.ns.length:=by rw[HL.out.1];exact hlt
   obtain ⟨B1,o1,ha1,hl1,z1,hz1,hr1⟩:=H.out.2.2.1.h1.at k hki
   simp only at ha1
   subst ha1
   have hsum:((d.ns.map nsz).take (k+1)).sum=((d.ns.map nsz).take k).sum+nsz d.ns[k]:=by
    rw[List.take_succ_eq_append_getElem (by simp;exact hki),sum_snoc'];simp
   have hle:((d.ns.map nsz).take (k+1)).sum<=nsum d:=sum_take' (d.ns.map nsz) (k+1)
   have hA2:=HA.out
   have HA2:Hid (A+(nsz d.ns[k]:Int)=(P:Int)+(n4:Int) - (tl:Int)+((((d.ns.map nsz).take (k+1)).sum:Nat):Int)):=by show _=_;omega
   have hb2:A+(nsz d.ns[k]:Int)<=1000000000000000:=by have:=HA2.out;omega
   have KS:Hid (∀W,W=wr->Calls Tryz.prog 32 #[.slice z1.a z1.n z1.c] W fun e w'=>e=.returned (.int .i64 (nsz d.ns[k]))/\w'=W):=by
    intro W e
    subst e
    exact psize_eq z1.a z1.n z1.c d.ns[k] W hr1.rd hr1.len (by omega)
   clear hsum hle hA2 hr1 HA
   generalize nsz d.ns[k]=q at*
   generalize z1.a=za at*
   generalize z1.n=zn at*
   generalize z1.c=zc at*
   have w3:IntKind.i64.wrap (A+(q:Int))=A+(q:Int):=by rw[IntKind.wrap_i64];omega
   go_wp2_with fail
   refine (KS.out _ rfl).mono ?_
   rintro e Wx ⟨rfl,rfl⟩
   go_wp2_with fail
   refine ⟨⟨by first|rfl|trivial,k+1,A+(q:Int),by omega,by go_num,by first|rfl|go_num,by omega,HA2⟩,?_⟩
   simp[intOf];omega
  ·have hge:¬ (k:Int)<(n1:Int):=by omega
   have HA1:Hid (A=(P:Int)+(n4:Int) - (tl:Int)+(nsum d:Int)):=by
    have:=HA.out
    rwa [List.take_of_length_le (by simp;rw[HL.out.1];omega)] at this
   clear HA
   have c2:=H.out.2.1.2.2.1
   simp only at c2
   clear c0
   go_wp2_with fail
   obtain ⟨wz,hz⟩:∃z,z=wr:=⟨_,rfl⟩
   subst hz
   go_loopw [5,38] (fun v i wr=>wr=wz/\∃(j:Nat) (B:Int),j<=n3/\i=.int .i64 (j:Int)/\v=.int .i64 B/\(-1<=B/\B<=1000000000000000)/\Hid (B=A+((((d.ts.map tz).take j).sum:Nat):Int))) (fun _ i _=>n3 - (intOf i).toNat)
   case atStart=>exact ⟨rfl,0,A,Nat.zero_le _,rfl,rfl,hA,by show _=_;simp⟩
   case round=>
    obtain ⟨hwr,j,B,hj,rfl,rfl,hB2,HBB⟩:=hrel
    subst hwr
    by_cases hjt:j<n3
    ·have hjt':(j:Int)<(n3:Int):=by omega
     have hji:j<d.ts.length:=by rw[HL.out.2];exact hjt
     obtain ⟨B3,o3,ha3,hl3,hy3⟩:=H.out.2.2.1.h3.rd.at j hji
     simp only at ha3
     subst ha3
     have hsum:((d.ts.map tz).take (j+1)).sum=((d.ts.map tz).take j).sum+(1+d.ts[j].size):=by
      rw[List.take_succ_eq_append_getElem (by simp;exact hji),sum_snoc'];simp[tz]
     have hle:((d.ts.map tz).take (j+1)).sum<=tsum d:=sum_take' _ (j+1)
     have hA2:=HBB.out
     have hA3:=HA1.out
     have HB3:Hid (B+(1+(d.ts[j].size:Int))=A+((((d.ts.map tz).take (j+1)).sum:Nat):Int)):=by show _=_;omega
     have hb3:B+(1+(d.ts[j].size:Int))<=1000000000000000:=by have:=HB3.out;omega
     clear hsum hle hA2 hA3 HBB
     obtain ⟨s,hs⟩:∃s,s=d.ts[j]:=⟨_,rfl⟩
     rw[<- hs] at HB3 hb3 hy3
     clear hs
     have w4:IntKind.i64.wrap (1+(s.size:Int))=1+(s.size:Int):=by rw[IntKind.wrap_i64];omega
     have w5:IntKind.i64.wrap (B+(1+(s.size:Int)))=B+(1+(s.size:Int)):=by rw[IntKind.wrap_i64];omega
     go_wp2_with fail
     refine ⟨⟨by first|rfl|trivial,j+1,B+(1+(s.size:Int)),by omega,by go_num,by first|rfl|go_num,by omega,HB3⟩,?_⟩
     simp[intOf];omega
    ·have hge2:¬ (j:Int)<(n3:Int):=by omega
     have HE:Hid (Z=B):=by
      have h1:=HBB.out
      rw[List.take_of_length_le (by simp;rw[HL.out.2];omega)] at h1
      have h2:=HZ.out
      have h3:=HA1.out
      show Z=B
      have h4:tsum d=(d.ts.map tz).sum:=rfl
      omega
     clear HBB HA1
     go_wp2_with fail
     go_ret
     exact ⟨by rw[HE.out];rfl,H.out.2.2.2⟩
theorem dec_wd(wd:Nat)(h:wd=1∨wd=2∨wd=4)(n:Nat):decide (n / 2 ^ (8*wd)=0)=decide (n<=most wd):=by
 apply decide_eq_decide.2
 rcases h with rfl|rfl|rfl <;> simp[most] <;> omega
theorem fitB_ge(n:Nat)(c:Int)(h:0<=c):fitB n c=decide ((n:Int)=c):=by
 unfold fitB
 rw[if_neg (by omega),if_neg (by omega)]
theorem nil_of{α:Type}{l:List α}(h:(l.length:Int)=0):l=[]:=List.eq_nil_of_length_eq_zero (by omega)
theorem fit_eq(t:Nat)(d:Dat):(cntB (fs t) d && wthB (fs t) d)=fitsB t d:=by
 obtain ⟨ns,us,ts,raw⟩:=d
 rw[Bool.eq_iff_iff]
 unfold cntB wthB fitsB
 rcases fs_cases t with ⟨ht,e⟩|⟨ht,e⟩|⟨ht,e⟩|⟨ht,e⟩|⟨ht,e⟩|⟨ht,e⟩|⟨ht,e⟩|⟨ht,e⟩|⟨ht,e⟩
 ·have es':shp t=⟨0,0,0,4,0⟩:=by subst ht;rfl
  have q1:t≠16:=by omega
  have q2:t≠257:=by omega
  rw[e,es']
  simp only[fitB_ge _ ((0:Nat):Int) (by omega),fitB_ge _ (0:Int) (by omega),fitB_ge _ ((1:Nat):Int) (by omega),fitB_ge _ (4:Int) (by omega),fitB_ge _ (16:Int) (by omega),Bool.and_eq_true,Bool.or_eq_true,decide_eq_true_eq,List.all_eq_true]
  constructor
  ·rintro ⟨⟨⟨⟨h1,h2⟩,h3⟩,h4⟩,_⟩
   obtain rfl:=nil_of h2
   obtain rfl:=nil_of h3
   exact ⟨⟨⟨⟨⟨⟨⟨by omega,rfl⟩,.inr rfl⟩,.inl (by omega)⟩,.inr (by omega)⟩,by simp⟩,.inl q1⟩,.inl q2⟩
  ·rintro ⟨⟨⟨⟨⟨⟨⟨h1,h2⟩,h3⟩,_⟩,h4⟩,_⟩,_⟩,_⟩
   obtain rfl:=List.eq_nil_of_length_eq_zero h2
   obtain rfl:=nil_of (l:=ts) (by omega)
   exact ⟨⟨⟨⟨by omega,rfl⟩,rfl⟩,by omega⟩,⟨by simp,by simp⟩,by simp⟩
 ·have es':shp t=⟨0,0,0,16,0⟩:=by subst ht;rfl
  have q1:t≠16:=by omega
  have q2:t≠257:=by omega
  rw[e,es']
  simp only[fitB_ge _ ((0:Nat):Int) (by omega),fitB_ge _ (0:Int) (by omega),fitB_ge _ ((1:Nat):Int) (by omega),fitB_ge _ (4:Int) (by omega),fitB_ge _ (16:Int) (by omega),Bool.and_eq_true,Bool.or_eq_true,decide_eq_true_eq,List.all_eq_true]
  constructor
  ·rintro ⟨⟨⟨⟨h1,h2⟩,h3⟩,h4⟩,_⟩
   obtain rfl:=nil_of h2
   obtain rfl:=nil_of h3
   exact ⟨⟨⟨⟨⟨⟨⟨by omega,rfl⟩,.inr rfl⟩,.inl (by omega)⟩,.inr (by omega)⟩,by simp⟩,.inl q1⟩,.inl q2⟩
  ·rintro ⟨⟨⟨⟨⟨⟨⟨h1,h2⟩,h3⟩,_⟩,h4⟩,_⟩,_⟩,_⟩
   obtain rfl:=List.eq_nil_of_length_eq_zero h2
   obtain rfl:=nil_of (l:=ts) (by omega)
   exact ⟨⟨⟨⟨by omega,rfl⟩,rfl⟩,by omega⟩,⟨by simp,by simp⟩,by simp⟩
 ·have es':shp t=⟨1,0,0,0,0⟩:=by rcases ht with rfl|rfl|rfl <;> rfl
  have q1:t≠16:=by omega
  have q2:t≠257:=by omega
  rw[e,es']
  simp only[fitB_ge _ ((0:Nat):Int) (by omega),fitB_ge _ (0:Int) (by omega),fitB_ge _ ((1:Nat):Int) (by omega),fitB_ge _ (4:Int) (by omega),fitB_ge _ (16:Int) (by omega),Bool.and_eq_true,Bool.or_eq_true,decide_eq_true_eq,List.all_eq_true]
  constructor
  ·rintro ⟨⟨⟨⟨h1,h2⟩,h3⟩,h4⟩,_⟩
   obtain rfl:=nil_of h2
   obtain rfl:=nil_of h3
   exact ⟨⟨⟨⟨⟨⟨⟨by omega,rfl⟩,.inr rfl⟩,.inl (by omega)⟩,.inr (by omega)⟩,by simp⟩,.inl q1⟩,.inl q2⟩
  ·rintro ⟨⟨⟨⟨⟨⟨⟨h1,h2⟩,h3⟩,_⟩,h4⟩,_⟩,_⟩,_⟩
   obtain rfl:=List.eq_nil_of_length_eq_zero h2
   obtain rfl:=nil_of (l:=ts) (by omega)
   exact ⟨⟨⟨⟨by omega,rfl⟩,rfl⟩,by omega⟩,⟨by simp,by simp⟩,by simp⟩
 ·have es':shp t=⟨2,5,0,0,4⟩:=by subst ht;rfl
  have q1:t≠16:=by omega
  have q2:t≠257:=by omega
  have hd:=dec_wd 4 (by simp)
  rw[e,es']
  simp only[hd,fitB_ge _ ((0:Nat):Int) (by omega),fitB_ge _ (0:Int) (by omega),fitB_ge _ ((1:Nat):Int) (by omega),fitB_ge _ ((2:Nat):Int) (by omega),fitB_ge _ ((3:Nat):Int) (by omega),fitB_ge _ ((5:Nat):Int) (by omega),Bool.and_eq_true,Bool.or_eq_true,decide_eq_true_eq,List.all_eq_true]
  constructor
  ·rintro ⟨⟨⟨⟨h1,h2⟩,h3⟩,h4⟩,⟨h5,_⟩,_⟩
   obtain rfl:=nil_of h3
   obtain rfl:=nil_of h4
   exact ⟨⟨⟨⟨⟨⟨⟨by omega,by omega⟩,.inr rfl⟩,.inl (by omega)⟩,.inr rfl⟩,h5⟩,.inl q1⟩,.inl q2⟩
  ·rintro ⟨⟨⟨⟨⟨⟨⟨h1,h2⟩,h3⟩,_⟩,h4⟩,h5⟩,_⟩,_⟩
   obtain rfl:=nil_of (l:=ts) (by omega)
   obtain rfl:=nil_of (l:=raw) (by omega)
   exact ⟨⟨⟨⟨by omega,by omega⟩,rfl⟩,rfl⟩,⟨h5,by simp⟩,by simp⟩
 ·have es':shp t=⟨1,1,0,0,2⟩:=by subst ht;rfl
  have q1:t≠16:=by omega
  have q2:t≠257:=by omega
  have hd:=dec_wd 2 (by simp)
  rw[e,es']
  simp only[hd,fitB_ge _ ((0:Nat):Int) (by omega),fitB_ge _ (0:Int) (by omega),fitB_ge _ ((1:Nat):Int) (by omega),fitB_ge _ ((2:Nat):Int) (by omega),fitB_ge _ ((3:Nat):Int) (by omega),fitB_ge _ ((5:Nat):Int) (by omega),Bool.and_eq_true,Bool.or_eq_true,decide_eq_true_eq,List.all_eq_true]
  constructor
  ·rintro ⟨⟨⟨⟨h1,h2⟩,h3⟩,h4⟩,⟨h5,_⟩,_⟩
   obtain rfl:=nil_of h3
   obtain rfl:=nil_of h4
   exact ⟨⟨⟨⟨⟨⟨⟨by omega,by omega⟩,.inr rfl⟩,.inl (by omega)⟩,.inr rfl⟩,h5⟩,.inl q1⟩,.inl q2⟩
  ·rintro ⟨⟨⟨⟨⟨⟨⟨h1,h2⟩,h3⟩,_⟩,h4⟩,h5⟩,_⟩,_⟩
   obtain rfl:=nil_of (l:=ts) (by omega)
   obtain rfl:=nil_of (l:=raw) (by omega)
   exact ⟨⟨⟨⟨by omega,by omega⟩,rfl⟩,rfl⟩,⟨h5,by simp⟩,by simp⟩
 ·have es':shp t=⟨1,3,0,0,2⟩:=by subst ht;rfl
  have q1:t≠16:=by omega
  have q2:t≠257:=by omega
  have hd:=dec_wd 2 (by simp)
  rw[e,es']
  simp only[hd,fitB_ge _ ((0:Nat):Int) (by omega),fitB_ge _ (0:Int) (by omega),fitB_ge _ ((1:Nat):Int) (by omega),fitB_ge _ ((2:Nat):Int) (by omega),fitB_ge _ ((3:Nat):Int) (by omega),fitB_ge _ ((5:Nat):Int) (by omega),Bool.and_eq_true,Bool.or_eq_true,decide_eq_true_eq,List.all_eq_true]
  constructor
  ·rintro ⟨⟨⟨⟨h1,h2⟩,h3⟩,h4⟩,⟨h5,_⟩,_⟩
   obtain rfl:=nil_of h3
   obtain rfl:=nil_of h4
   exact ⟨⟨⟨⟨⟨⟨⟨by omega,by omega⟩,.inr rfl⟩,.inl (by omega)⟩,.inr rfl⟩,h5⟩,.inl q1⟩,.inl q2⟩
  ·rintro ⟨⟨⟨⟨⟨⟨⟨h1,h2⟩,h3⟩,_⟩,h4⟩,h5⟩,_⟩,_⟩
   obtain rfl:=nil_of (l:=ts) (by omega)
   obtain rfl:=nil_of (l:=raw) (by omega)
   exact ⟨⟨⟨⟨by omega,by omega⟩,rfl⟩,rfl⟩,⟨h5,by simp⟩,by simp⟩
 ·have es':shp t=⟨0,0,-1,0,0⟩:=by subst ht;rfl
  have q2:t≠257:=by omega
  rw[e,es']
  have f1:fitB ts.length (-1)=decide (0<ts.length):=by simp[fitB]
  simp only[f1,fitB_ge _ ((0:Nat):Int) (by omega),fitB_ge _ (0:Int) (by omega),Bool.and_eq_true,Bool.or_eq_true,decide_eq_true_eq,List.all_eq_true]
  constructor
  ·rintro ⟨⟨⟨⟨h1,h2⟩,h3⟩,h4⟩,_,h5⟩
   obtain rfl:=nil_of h2
   obtain rfl:=nil_of h4
   exact ⟨⟨⟨⟨⟨⟨⟨by omega,rfl⟩,.inl (by omega)⟩,.inr (by omega)⟩,.inr rfl⟩,by simp⟩,.inr (by simpa using h5)⟩,.inl q2⟩
  ·rintro ⟨⟨⟨⟨⟨⟨⟨h1,h2⟩,h3⟩,h6⟩,h4⟩,h5⟩,h7⟩,_⟩
   obtain rfl:=List.eq_nil_of_length_eq_zero h2
   obtain rfl:=nil_of (l:=raw) (by omega)
   exact ⟨⟨⟨⟨by omega,rfl⟩,by omega⟩,rfl⟩,⟨by simp,by simp⟩,by have:=h7.resolve_left (fun hh=>hh ht);simpa using this⟩
 ·have es':shp t=⟨0,1,2,0,1⟩:=by subst ht;rfl
  have q1:t≠16:=by omega
  have hd:=dec_wd 1 (by simp)
  rw[e,es']
  simp only[hd,fitB_ge _ ((0:Nat):Int) (by omega),fitB_ge _ (0:Int) (by omega),fitB_ge _ ((1:Nat):Int) (by omega),fitB_ge _ (2:Int) (by omega),Bool.and_eq_true,Bool.or_eq_true,decide_eq_true_eq,List.all_eq_true]
  constructor
  ·rintro ⟨⟨⟨⟨h1,h2⟩,h3⟩,h4⟩,⟨h5,h6⟩,h7⟩
   rcases ts with _|⟨a,_|⟨b,_|⟨c,ts⟩⟩⟩
   ·simp at h3
   ·simp at h3
   ·obtain rfl:=nil_of h4
    exact ⟨⟨⟨⟨⟨⟨⟨by omega,by omega⟩,.inr rfl⟩,.inl (by omega)⟩,.inr rfl⟩,h5⟩,.inl q1⟩,.inr (h6 a (by simp))⟩
   ·simp at h3;omega
  ·rintro ⟨⟨⟨⟨⟨⟨⟨h1,h2⟩,h3⟩,_⟩,h4⟩,h5⟩,_⟩,h8⟩
   rcases ts with _|⟨a,_|⟨b,_|⟨c,ts⟩⟩⟩
   ·simp at h3
   ·simp at h3
   ·obtain rfl:=nil_of (l:=raw) (by omega)
    have hta:tagB a=true:=by have:=h8.resolve_left (fun hh=>hh ht);simpa using this
    have ha:a.size<=255:=by simp[tagB] at hta;omega
    refine ⟨⟨⟨⟨by omega,by omega⟩,by simp⟩,rfl⟩,⟨h5,by simp[hta]⟩,by simp[ha]⟩
   ·simp at h3;omega
 ·obtain ⟨h1,h2,h3,h4,h5,h6,h7,h8,h9,h10⟩:=ht
  have es':shp t=⟨0,0,0,-1,0⟩:=by unfold shp;simp[h1,h2,h3,h4,h5,h6,h7,h8,h9,h10]
  rw[e,es']
  have f1:fitB raw.length (-2)=true:=by simp[fitB]
  simp only[f1,fitB_ge _ ((0:Nat):Int) (by omega),fitB_ge _ (0:Int) (by omega),Bool.and_eq_true,Bool.or_eq_true,decide_eq_true_eq,List.all_eq_true]
  constructor
  ·rintro ⟨⟨⟨⟨i1,i2⟩,i3⟩,i4⟩,_⟩
   obtain rfl:=nil_of i2
   obtain rfl:=nil_of i3
   exact ⟨⟨⟨⟨⟨⟨⟨by omega,rfl⟩,.inr rfl⟩,.inl (by omega)⟩,.inl (by omega)⟩,by simp⟩,.inl h9⟩,.inl h10⟩
  ·rintro ⟨⟨⟨⟨⟨⟨⟨i1,i2⟩,i3⟩,_⟩,i4⟩,_⟩,_⟩,_⟩
   obtain rfl:=List.eq_nil_of_length_eq_zero i2
   obtain rfl:=nil_of (l:=ts) (by omega)
   exact ⟨⟨⟨⟨by omega,rfl⟩,rfl⟩,trivial⟩,⟨by simp,by simp⟩,by simp⟩
theorem tsum_nby(l:List ByteArray):(l.map tz).sum=(nby l).length:=by
 induction l with
 |nil=>simp[nby]
 |cons a l ih=>
  have e:nby (a::l)=(a.size:Int)::(nums a++nby l):=by simp[nby]
  rw[e]
  simp[ih,nums_len,tz]
  omega
theorem psz_eq(t:Nat)(d:Dat)(h:fitsB t d=true):pszI (fs t) d=(sizesF t d:Nat):=by
 obtain ⟨ns,us,ts,raw⟩:=d
 unfold fitsB at h
 unfold pszI sizesF nsum tsum
 simp only[Bool.and_eq_true,Bool.or_eq_true,decide_eq_true_eq] at h ⊢
 obtain ⟨⟨⟨⟨⟨⟨⟨h1,h2⟩,h3⟩,h6⟩,h4⟩,h5⟩,h7⟩,h8⟩:=h
 have key:(shp t).wd=(fs t).wd/\((((fs t).tl=0/\t≠257)/\(t=16∨((shp t).nt=0)))∨((fs t).tl=1/\t=257/\(shp t).nt=2)):=by
  rcases fs_cases t with ⟨ht,e⟩|⟨ht,e⟩|⟨ht,e⟩|⟨ht,e⟩|⟨ht,e⟩|⟨ht,e⟩|⟨ht,e⟩|⟨ht,e⟩|⟨ht,e⟩
  ·subst ht;exact ⟨rfl,.inl ⟨⟨rfl,by omega⟩,.inr rfl⟩⟩
  ·subst ht;exact ⟨rfl,.inl ⟨⟨rfl,by omega⟩,.inr rfl⟩⟩
  ·rcases ht with rfl|rfl|rfl <;> exact ⟨rfl,.inl ⟨⟨rfl,by omega⟩,.inr rfl⟩⟩
  ·subst ht;exact ⟨rfl,.inl ⟨⟨rfl,by omega⟩,.inr rfl⟩⟩
  ·subst ht;exact ⟨rfl,.inl ⟨⟨rfl,by omega⟩,.inr rfl⟩⟩
  ·subst ht;exact ⟨rfl,.inl ⟨⟨rfl,by omega⟩,.inr rfl⟩⟩
  ·subst ht;exact ⟨rfl,.inl ⟨⟨rfl,by omega⟩,.inl rfl⟩⟩
  ·subst ht;exact ⟨rfl,.inr ⟨rfl,rfl,rfl⟩⟩
  ·obtain ⟨i1,i2,i3,i4,i5,i6,i7,i8,i9,i10⟩:=ht
   have es':shp t=⟨0,0,0,-1,0⟩:=by unfold shp;simp[i1,i2,i3,i4,i5,i6,i7,i8,i9,i10]
   rw[e,es']
   exact ⟨rfl,.inl ⟨⟨rfl,i10⟩,.inr rfl⟩⟩
 obtain ⟨kw,kt⟩:=key
 rw[kw,tsum_nby,Nat.mul_comm us.length]
 rcases kt with ⟨⟨k1,k2⟩,k3⟩|⟨k1,k2,k3⟩
 ·rw[k1]
  rcases k3 with k3|k3
  ·have:tsz t ts=(nby ts).length:=by unfold tsz;rw[if_pos k3]
   rw[this];omega
  ·have hz:ts=[]:=nil_of (by omega)
   subst hz
   have:tsz t []=0:=by unfold tsz;split <;> simp[nby]
   rw[this];simp[nby];omega
 ·rw[k1]
  rcases ts with _|⟨a,_|⟨b,_|⟨c,ts⟩⟩⟩
  ·simp at h3;omega
  ·simp at h3;omega
  ·have:tsz t [a,b]=a.size+1+b.size:=by unfold tsz;rw[if_neg (by omega)];simp[nums_len]
   rw[this]
   have:(nby [a,b]).length=a.size+1+(b.size+1):=by simp[nby,nums_len];omega
   rw[this];omega
  ·simp at h3;omega
theorem pcheck_wide(a:Option Addr)(len cap:Nat)(ss:List ByteArray)(w:World)(hr:RdT w a ss)(hl:ss.length=len)(hm:labsOk ss->nsz ss<=1000000000000000)(hlen:len<=9223372036854775807)(hz:∀s∈ss,s.size<=9223372036854775807) :
  Calls Tryz.prog 17 #[.slice a len cap] w fun e w'=>e=.returned (.int .i64 (nck ss))/\w'=w:=by
 have HR:Hid (RdT w a ss/\∀s∈ss,s.size<=9223372036854775807):=⟨hr,hz⟩
 have HL:Hid (ss.length=len):=hl
 have HS:Hid (labsOk ss->∀W,RdT W a ss->Calls Tryz.prog 32 #[.slice a len cap] W fun e w'=>e=.returned (.int .i64 (nsz ss))/\w'=W):=fun ho W hW=>psize_eq a len cap ss W hW hl (hm ho)
 obtain ⟨T,hT⟩:∃T,nsz ss=T:=⟨_,rfl⟩
 have HT:Hid (nsz ss=T):=hT
 rw[hT] at HS
 clear hr hl hT hz hm
 go_enter Tryz.func17,Tryz.ntmps17
 go_wp2_with fail
 go_loopw [8] (fun x wr=>∃k:Nat,k<=len/\x=.int .i64 k/\wr=w/\Hid (∀i (h:i<ss.length),i<k->chk ss[i].size=0)) (fun x _=>len - (intOf x).toNat)
 case atStart=>exact ⟨0,Nat.zero_le _,rfl,rfl,fun i _ h=>absurd h (by omega)⟩
 case round=>
  obtain ⟨k,hk,rfl,rfl,HK⟩:=hrel
  by_cases hlt:k<len
  ·have hlt':(k:Int)<(len:Int):=by omega
   have hks:k<ss.length:=by rw[HL.out];exact hlt
   obtain ⟨b,o,rfl,hb,hc⟩:=HR.out.1.at k hks
   have HC:Hid (∀W,Calls Tryz.prog 31 #[.string ss[k]] W fun e w'=>e=.returned (.int .i64 (chk ss[k].size))/\w'=W):=fun W=>chk_any ss[k] W (HR.out.2 _ (List.getElem_mem hks))
   rcases chk_cases ss[k].size with hk0|hk4
   ·have HN:Hid (∀i (h:i<ss.length),i<k+1->chk ss[i].size=0):=by
     intro i h hi
     by_cases e:i=k
     ·subst e;exact hk0
     ·exact HK.out i h (by omega)
    rw[hk0] at HC
    clear hk0 HK
    generalize ss[k]=s at*
    go_wp2_with fail
    refine (HC.out _).mono ?_
    rintro e w1 ⟨rfl,rfl⟩
    go_wp2
    exact ⟨⟨k+1,by omega,by go_num,trivial,HN⟩,by simp[intOf];omega⟩
   ·have HE:Hid (nck ss=4):=by
     show nck ss=4
     unfold nck
     rw[if_neg (fun h=>by have:=h _ (List.getElem_mem hks);rw[hk4] at this;cases this)]
    rw[hk4] at HC
    clear hk4 HK
    generalize ss[k]=s at*
    go_wp2_with fail
    refine (HC.out _).mono ?_
    rintro e w1 ⟨rfl,rfl⟩
    go_wp2
    go_ret
    exact ⟨by rw[HE.out];rfl,rfl⟩
  ·have hge:(len:Int)<=(k:Int):=by omega
   have HO:Hid (labsOk ss):=by
    intro s hs
    obtain ⟨i,hi,rfl⟩:=List.getElem_of_mem hs
    exact HK.out i hi (by have:=HL.out;omega)
   by_cases hb:255<T
   ·have HE:Hid (nck ss=5):=by show nck ss=5;unfold nck;rw[if_pos HO.out,HT.out,if_pos hb]
    have hb':(255:Int)<(T:Int):=by omega
    clear HK
    go_wp2_with fail
    refine (HS.out HO.out _ HR.out.1).mono ?_
    rintro e w1 ⟨rfl,rfl⟩
    go_wp2
    go_ret
    exact ⟨by rw[HE.out];rfl,rfl⟩
   ·have HE:Hid (nck ss=0):=by show nck ss=0;unfold nck;rw[if_pos HO.out,HT.out,if_neg hb]
    have hb':¬ (255:Int)<(T:Int):=by omega
    clear HK
    go_wp2_with fail
    refine (HS.out HO.out _ HR.out.1).mono ?_
    rintro e w1 ⟨rfl,rfl⟩
    go_wp2
    go_ret
    exact ⟨by rw[HE.out];rfl,rfl⟩
theorem nsErr_drop'(l:List (List ByteArray))(k:Nat)(h:∀n∈l.take k,nck n=0):nsErr l=nsErr (l.drop k):=by
 induction l generalizing k with
 |nil=>simp
 |cons x l ih=>
  cases k with
  |zero=>simp
  |succ k=>
   have h0:nck x=0:=h x (by simp)
   simp only[nsErr,List.drop_succ_cons]
   rw[if_pos h0]
   exact ih k (fun n hn=>h n (by simp[hn]))
structure Bd(d:Dat):Prop where
 n:d.ns.length<=1000
 nl:∀x∈d.ns,x.length<=1000000
 u:d.us.length<=1000
 t:tsum d<=1000000000000
 r:d.raw.length<=1000000000000
theorem sum_le(l:List Nat)(m:Nat)(h:∀x∈l,x<=m):l.sum<=l.length*m:=by
 induction l with
 |nil=>simp
 |cons a l ih=>
  have h1:=h a (by simp)
  have h2:=ih (fun x hx=>h x (by simp[hx]))
  simp only[List.sum_cons,List.length_cons,Nat.succ_mul]
  omega
theorem nsz_labs(ss:List ByteArray)(h:labsOk ss):nsz ss<=64*ss.length+1:=by
 have h1:(nby ss).length<=64*ss.length:=by
  induction ss with
  |nil=>simp[nby]
  |cons a l ih=>
   have e:nby (a::l)=(a.size:Int)::(nums a++nby l):=by simp[nby]
   have h0:=h a (by simp)
   have h2:=ih (fun x hx=>h x (by simp[hx]))
   have h3:a.size<=63:=by unfold chk at h0;split at h0 <;> simp_all <;> omega
   rw[e]
   simp[nums_len]
   omega
 have:=nby_len ss
 omega
theorem nsErr_zero{l:List (List ByteArray)}(h:nsErr l=0):∀n∈l,nck n=0:=by
 induction l with
 |nil=>simp
 |cons a l ih=>
  simp only[nsErr] at h
  by_cases ha:nck a=0
  ·rw[if_pos ha] at h
   intro n hn
   rcases List.mem_cons.1 hn with rfl|hn
   ·exact ha
   ·exact ih h n hn
  ·rw[if_neg ha] at h;exact absurd h ha
theorem fs_wd(t:Nat):(fs t).wd=0∨(fs t).wd=1∨(fs t).wd=2∨(fs t).wd=4:=by
 rcases fs_cases t with ⟨_,e⟩|⟨_,e⟩|⟨_,e⟩|⟨_,e⟩|⟨_,e⟩|⟨_,e⟩|⟨_,e⟩|⟨_,e⟩|⟨_,e⟩ <;> rw[e] <;> simp
theorem fs_tl(t:Nat):(fs t).tl<=1:=by
 rcases fs_cases t with ⟨_,e⟩|⟨_,e⟩|⟨_,e⟩|⟨_,e⟩|⟨_,e⟩|⟨_,e⟩|⟨_,e⟩|⟨_,e⟩|⟨_,e⟩ <;> rw[e] <;> simp
theorem fs_tags(t:Nat)(d:Dat)(h:cntB (fs t) d=true):(fs t).tg<=d.ts.length/\(fs t).tl<=d.ts.length:=by
 unfold cntB at h
 simp only[Bool.and_eq_true] at h
 obtain ⟨⟨⟨_,_⟩,h⟩,_⟩:=h
 rcases fs_cases t with ⟨_,e⟩|⟨_,e⟩|⟨_,e⟩|⟨_,e⟩|⟨_,e⟩|⟨_,e⟩|⟨_,e⟩|⟨_,e⟩|⟨_,e⟩ <;> rw[e] at h ⊢ <;> simp
 simp only at h
 rw[fitB_ge _ _ (by omega)] at h
 simp at h
 omega
def PkSt(w W:World)(b g:Nat)(f:Fs)(x:DA)(d:Dat):Prop:=DBox W b x/\FBox W g f/\DRd W x d/\Below w.heap.size w W
theorem PkSt.go{w W W':World}{b g:Nat}{f:Fs}{x:DA}{d:Dat}(h:PkSt w W b g f x d)(hb:Below W.heap.size W W'):PkSt w W' b g f x d:=
 ⟨h.1.below hb,h.2.1.below hb,h.2.2.1.below hb,h.2.2.2.trans (hb.mono h.2.2.2.size)⟩
theorem PkSt.new{w W:World}{b:Nat}(f:Fs){x:DA}{d:Dat}(h1:DBox W b x)(h2:DRd W x d)(h3:Below w.heap.size w W):PkSt w (W.alloc (.cells #[.int .i64 f.nn,.int .i64 f.nf,.int .i64 f.nu,.int .i64 f.wd,.int .i64 f.nt,.int .i64 f.tg,.int .i64 f.tl,.int .i64 f.nr] 201)) b W.heap.size f x d:=by
 have hb:Below W.heap.size W (W.alloc (.cells #[.int .i64 f.nn,.int .i64 f.nf,.int .i64 f.nu,.int .i64 f.wd,.int .i64 f.nt,.int .i64 f.tg,.int .i64 f.tl,.int .i64 f.nr] 201)):=(Below.refl _ _).alloc (Nat.le_refl _) _
 exact ⟨h1.below hb,FBox.new W f,h2.below hb,h3.trans (hb.mono h3.size)⟩
theorem check_any(t:Nat)(x:DA)(d:Dat)(w:World)(h:DRd w x d)(hB:Bd d) :
  Calls Tryz.prog 112 #[.int .u16 t,.agg #[.slice x.p1.a x.p1.n x.p1.c,.slice x.p2.a x.p2.n x.p2.c,.slice x.p3.a x.p3.n x.p3.c,.slice x.p4.a x.p4.n x.p4.c]] w fun e w'=>e=.returned (.int .i64 (checkF t d))/\Hid (Below w.heap.size w w'):=by
 have hb0:Below w.heap.size w (w.alloc (.cells #[.slice x.p1.a x.p1.n x.p1.c,.slice x.p2.a x.p2.n x.p2.c,.slice x.p3.a x.p3.n x.p3.c,.slice x.p4.a x.p4.n x.p4.c] 48)):=(Below.refl _ _).alloc (Nat.le_refl _) _
 have H:Hid (DBox (w.alloc (.cells #[.slice x.p1.a x.p1.n x.p1.c,.slice x.p2.a x.p2.n x.p2.c,.slice x.p3.a x.p3.n x.p3.c,.slice x.p4.a x.p4.n x.p4.c] 48)) w.heap.size x/\DRd (w.alloc (.cells #[.slice x.p1.a x.p1.n x.p1.c,.slice x.p2.a x.p2.n x.p2.c,.slice x.p3.a x.p3.n x.p3.c,.slice x.p4.a x.p4.n x.p4.c] 48)) x d/\Below w.heap.size w (w.alloc (.cells #[.slice x.p1.a x.p1.n x.p1.c,.slice x.p2.a x.p2.n x.p2.c,.slice x.p3.a x.p3.n x.p3.c,.slice x.p4.a x.p4.n x.p4.c] 48))):=⟨DBox.new w x,h.below hb0,hb0⟩
 have KC:Hid (∀W,DRd W x d->Calls Tryz.prog 139 #[.agg #[.int .i64 (fs t).nn,.int .i64 (fs t).nf,.int .i64 (fs t).nu,.int .i64 (fs t).wd,.int .i64 (fs t).nt,.int .i64 (fs t).tg,.int .i64 (fs t).tl,.int .i64 (fs t).nr],.agg #[.slice x.p1.a x.p1.n x.p1.c,.slice x.p2.a x.p2.n x.p2.c,.slice x.p3.a x.p3.n x.p3.c,.slice x.p4.a x.p4.n x.p4.c]] W fun e w'=>e=.returned (.bool (cntB (fs t) d))/\Hid (Below W.heap.size W w')):=fun W hd=>counted_any (fs t) x d W hd
 have KW:Hid (cntB (fs t) d=true->∀W,DRd W x d->Calls Tryz.prog 140 #[.agg #[.int .i64 (fs t).nn,.int .i64 (fs t).nf,.int .i64 (fs t).nu,.int .i64 (fs t).wd,.int .i64 (fs t).nt,.int .i64 (fs t).tg,.int .i64 (fs t).tl,.int .i64 (fs t).nr],.agg #[.slice x.p1.a x.p1.n x.p1.c,.slice x.p2.a x.p2.n x.p2.c,.slice x.p3.a x.p3.n x.p3.c,.slice x.p4.a x.p4.n x.p4.c]] W fun e w'=>e=.returned (.bool (wthB (fs t) d))/\Hid (Below W.heap.size W w')):=fun hc W hd=>within_any (fs t) x d W hd (fs_wd t) (fs_tags t d hc).1 (fs_tags t d hc).2
 have KZ:Hid (cntB (fs t) d=true->wthB (fs t) d=true->nsErr d.ns=0->∀W,DRd W x d->Calls Tryz.prog 141 #[.agg #[.int .i64 (fs t).nn,.int .i64 (fs t).nf,.int .i64 (fs t).nu,.int .i64 (fs t).wd,.int .i64 (fs t).nt,.int .i64 (fs t).tg,.int .i64 (fs t).tl,.int .i64 (fs t).nr],.agg #[.slice x.p1.a x.p1.n x.p1.c,.slice x.p2.a x.p2.n x.p2.c,.slice x.p3.a x.p3.n x.p3.c,.slice x.p4.a x.p4.n x.p4.c]] W fun e w'=>e=.returned (.int .i64 (sizesF t d:Nat))/\Hid (Below W.heap.size W w')):=by
  intro h1 h2 h3 W hd
  have h4:fitsB t d=true:=by rw[<- fit_eq,h1,h2];rfl
  rw[<- psz_eq t d h4]
  refine psize5_any (fs t) x d W hd (fs_tl t) ?_
  have h5:nsum d<=1000*255:=by
   have:=sum_le (d.ns.map nsz) 255 (by
    intro y hy
    obtain ⟨n,hn,rfl⟩:=List.mem_map.1 hy
    exact (nck_small (nsErr_zero h3 n hn)).1)
   rw[List.length_map] at this
   have h6:d.ns.length*255<=1000*255:=Nat.mul_le_mul_right _ hB.n
   unfold nsum
   omega
  have h7:(fs t).wd*d.us.length<=4*1000:=Nat.mul_le_mul (by have:=fs_wd t;omega) hB.u
  have h8:=hB.t
  have h9:=hB.r
  omega
 have KO:Hid (∀W,Calls Tryz.prog 138 #[.int .u16 t] W fun e w'=>e=.returned (.agg #[.int .i64 (fs t).nn,.int .i64 (fs t).nf,.int .i64 (fs t).nu,.int .i64 (fs t).wd,.int .i64 (fs t).nt,.int .i64 (fs t).tg,.int .i64 (fs t).tl,.int .i64 (fs t).nr])/\Hid (Below W.heap.size W w')):=fun W=>fieldsof_any t W
 have hc1:x.p1.n<=9223372036854775807:=Nat.le_trans h.h1.cap.1 h.h1.cap.2
 have HL:Hid (d.ns.length=x.p1.n):=h.h1.len
 have HNB:Hid (∀n∈d.ns,labsOk n->nsz n<=1000000000000000):=by
  intro n hn hl
  have h1:=nsz_labs n hl
  have h2:=hB.nl n hn
  omega
 have HQ:Hid (checkF t d=if mayT t then (if (cntB (fs t) d && wthB (fs t) d) then (if nsErr d.ns=0 then (if 65535<sizesF t d then 3 else 0) else nsErr d.ns) else 7) else 6):=by
  show _=_
  rw[fit_eq]
  rfl
 obtain ⟨C,hC⟩:∃C,checkF t d=C:=⟨_,rfl⟩
 rw[hC] at HQ ⊢
 have KH:Hid (∀W,Calls Tryz.prog 137 #[.int .u16 t] W fun e w'=>e=.returned (.bool (mayT t))/\w'=W):=fun W=>hasdata_any t W
 clear hC h hb0 hB
 generalize hmay:mayT t=mt at*
 generalize hcnt:cntB (fs t) d=ct at*
 generalize hwth:wthB (fs t) d=wt at*
 generalize (fs t)=f at*
 generalize hsz:sizesF t d=sz at*
 clear hmay hcnt hwth hsz
 obtain ⟨nn,nf,nu,wd,nt,tg,tl,nr⟩:=f
 obtain ⟨⟨a1,n1,k1⟩,⟨a2,n2,k2⟩,⟨a3,n3,k3⟩,⟨a4,n4,k4⟩⟩:=x
 simp only at H KC KW KZ KO hc1 HL ⊢
 go_enter Tryz.func112,Tryz.ntmps112
 go_wp2_with fail
 generalize (w.alloc (.cells #[.slice a1 n1 k1,.slice a2 n2 k2,.slice a3 n3 k3,.slice a4 n4 k4] 48))=W1 at*
 obtain ⟨b,hb⟩:∃b,b=w.heap.size:=⟨_,rfl⟩
 rw[<- hb] at H ⊢
 have Hb:Hid (b=w.heap.size):=hb
 clear hb
 refine (KH.out W1).mono ?_
 rintro e W1 ⟨rfl,rfl⟩
 clear KH
 cases mt with
 |false=>
  have HE:Hid (C=6):=by show C=6;have:=HQ.out;simpa using this
  clear HQ KC KW KZ KO
  go_wp2_with fail
  go_ret
  exact ⟨by rw[HE.out];rfl,by have:=H.out.2.2;rw[Hb.out] at this;exact this⟩
 |true=>
 go_wp2_with fail
 refine (KO.out W1).mono ?_
 rintro e W2 ⟨rfl,H2⟩
 have H3:Hid (PkSt w (W2.alloc (.cells #[.int .i64 nn,.int .i64 nf,.int .i64 nu,.int .i64 wd,.int .i64 nt,.int .i64 tg,.int .i64 tl,.int .i64 nr] 201)) b W2.heap.size ⟨nn,nf,nu,wd,nt,tg,tl,nr⟩ ⟨⟨a1,n1,k1⟩,⟨a2,n2,k2⟩,⟨a3,n3,k3⟩,⟨a4,n4,k4⟩⟩ d):=PkSt.new ⟨nn,nf,nu,wd,nt,tg,tl,nr⟩ (H.out.1.below H2.out) (H.out.2.1.below H2.out) (by have:=H.out.2.2;rw[Hb.out] at this;exact this.trans (H2.out.mono this.size))
 clear H H2 KO
 go_upto_region 4 with fail
 generalize (W2.alloc (.cells #[.int .i64 nn,.int .i64 nf,.int .i64 nu,.int .i64 wd,.int .i64 nt,.int .i64 tg,.int .i64 tl,.int .i64 nr] 201))=W3 at*
 generalize W2.heap.size=g at*
 obtain ⟨s0,s1,s2,s3,s4,s5,s6,s7,_⟩:=H3.out.2.1
 have c0:=H3.out.1.1
 have c1:=H3.out.1.2.1
 have c2:=H3.out.1.2.2.1
 have c3:=H3.out.1.2.2.2.1
 simp only at s0 s1 s2 s3 s4 s5 s6 s7 c0 c1 c2 c3
 go_wp2_with fail
 refine (KC.out W3 H3.out.2.2.1).mono ?_
 rintro e W4 ⟨rfl,H4⟩
 have H5:Hid (PkSt w W4 b g ⟨nn,nf,nu,wd,nt,tg,tl,nr⟩ ⟨⟨a1,n1,k1⟩,⟨a2,n2,k2⟩,⟨a3,n3,k3⟩,⟨a4,n4,k4⟩⟩ d):=H3.out.go H4.out
 clear H3 H4 KC s0 s1 s2 s3 s4 s5 s6 s7 c0 c1 c2 c3
 cases ct with
 |false=>
  have HE:Hid (C=7):=by show C=7;have:=HQ.out;simpa using this
  clear HQ KZ KW
  go_wp2_with fail
  go_ret
  exact ⟨by rw[HE.out];rfl,H5.out.2.2.2⟩
 |true=>
 obtain ⟨s0,s1,s2,s3,s4,s5,s6,s7,_⟩:=H5.out.2.1
 have c0:=H5.out.1.1
 have c1:=H5.out.1.2.1
 have c2:=H5.out.1.2.2.1
 have c3:=H5.out.1.2.2.2.1
 simp only at s0 s1 s2 s3 s4 s5 s6 s7 c0 c1 c2 c3
 go_wp2_with fail
 refine (KW.out (by trivial) W4 H5.out.2.2.1).mono ?_
 rintro e W5 ⟨rfl,H4⟩
 have H6:Hid (PkSt w W5 b g ⟨nn,nf,nu,wd,nt,tg,tl,nr⟩ ⟨⟨a1,n1,k1⟩,⟨a2,n2,k2⟩,⟨a3,n3,k3⟩,⟨a4,n4,k4⟩⟩ d):=H5.out.go H4.out
 clear H5 H4 KW s0 s1 s2 s3 s4 s5 s6 s7 c0 c1 c2 c3
 cases wt with
 |false=>
  have HE:Hid (C=7):=by show C=7;have:=HQ.out;simpa using this
  clear HQ KZ
  go_wp2_with fail
  go_ret
  exact ⟨by rw[HE.out];rfl,H6.out.2.2.2⟩
 |true=>
 have HQ2:Hid (C=if nsErr d.ns=0 then (if 65535<sz then 3 else 0) else nsErr d.ns):=by show C=_;have:=HQ.out;simpa using this
 clear HQ
 have c0:=H6.out.1.1
 simp only at c0
 go_wp2_with fail
 go_loopw [27] (fun i wr=>wr=W5/\∃k:Nat,k<=n1/\i=.int .i64 (k:Int)/\Hid (∀n∈d.ns.take k,nck n=0)) (fun i _=>n1 - (intOf i).toNat)
 case atStart=>exact ⟨rfl,0,Nat.zero_le _,rfl,by intro n hn;simp at hn⟩
 case round=>
  obtain ⟨hwr,k,hk,rfl,HA⟩:=hrel
  subst hwr
  by_cases hlt:k<n1
  ·have hlt':(k:Int)<(n1:Int):=by omega
   have hki:k<d.ns.length:=by rw[HL.out];exact hlt
   obtain ⟨B1,o1,ha1,hl1,z1,hz1,hr1⟩:=H6.out.2.2.1.h1.at k hki
   simp only at ha1
   subst ha1
   have HD:Hid (nsErr d.ns=if nck d.ns[k]=0 then nsErr (d.ns.drop (k+1)) else nck d.ns[k]):=by
    show _=_
    rw[nsErr_drop' d.ns k HA.out,List.drop_eq_getElem_cons hki]
    rfl
   have HA2:Hid (nck d.ns[k]=0->∀n∈d.ns.take (k+1),nck n=0):=by
    intro h0 n hn
    rw[List.take_succ_eq_append_getElem hki] at hn
    simp only[List.mem_append,List.mem_singleton] at hn
    rcases hn with hn|rfl
    ·exact HA.out n hn
    ·exact h0
   have KC:Hid (∀W,W=wr->Calls Tryz.prog 17 #[.slice z1.a z1.n z1.c] W fun e w'=>e=.returned (.int .i64 (nck d.ns[k]))/\w'=W):=by
    intro W e
    subst e
    exact pcheck_wide z1.a z1.n z1.c d.ns[k] W hr1.rd hr1.len (HNB.out _ (List.getElem_mem _)) (Nat.le_trans hr1.cap.1 hr1.cap.2) hr1.z63
   clear hr1 HA
   generalize nck d.ns[k]=q at*
   generalize z1.a=za at*
   generalize z1.n=zn at*
   generalize z1.c=zc at*
   by_cases hq:q=0
   ·have hq':(q != 0)=false:=by simp[hq]
    have HA3:=HA2.out hq
    have HA4:Hid (∀n∈d.ns.take (k+1),nck n=0):=HA3
    clear HA3 HA2 HD hq
    go_wp2_with fail
    refine (KC.out _ rfl).mono ?_
    rintro e Wx ⟨rfl,rfl⟩
    go_wp2_with fail
    refine ⟨⟨by first|rfl|trivial,k+1,by omega,by go_num,HA4⟩,?_⟩
    simp[intOf];omega
   ·have hq':(q != 0)=true:=by simp[hq]
    have HE:Hid (C=q):=by
     have h1:=HQ2.out
     have h2:=HD.out
     rw[if_neg hq] at h2
     rw[h2,if_neg hq] at h1
     exact h1
    clear HA2 HD hq HQ2
    go_wp2_with fail
    refine (KC.out _ rfl).mono ?_
    rintro e Wx ⟨rfl,rfl⟩
    go_wp2_with fail
    go_ret
    exact ⟨by rw[HE.out];rfl,H6.out.2.2.2⟩
  ·have hge:¬ (k:Int)<(n1:Int):=by omega
   have HN:Hid (nsErr d.ns=0):=by
    have h1:=HA.out
    rw[List.take_of_length_le (by rw[HL.out];show n1<=k;omega)] at h1
    have:=nsErr_drop' d.ns d.ns.length (by rw[List.take_of_length_le (Nat.le_refl _)];exact h1)
    rw[List.drop_length] at this
    exact this
   have HE:Hid (C=if 65535<sz then 3 else 0):=by
    have h1:=HQ2.out
    rw[if_pos HN.out] at h1
    exact h1
   have KZ2:Hid (∀W,DRd W ⟨⟨a1,n1,k1⟩,⟨a2,n2,k2⟩,⟨a3,n3,k3⟩,⟨a4,n4,k4⟩⟩ d->Calls Tryz.prog 141 #[.agg #[.int .i64 nn,.int .i64 nf,.int .i64 nu,.int .i64 wd,.int .i64 nt,.int .i64 tg,.int .i64 tl,.int .i64 nr],.agg #[.slice a1 n1 k1,.slice a2 n2 k2,.slice a3 n3 k3,.slice a4 n4 k4]] W fun e w'=>e=.returned (.int .i64 (sz:Nat))/\Hid (Below W.heap.size W w')):=KZ.out (by trivial) (by trivial) HN.out
   clear HA HN KZ HQ2
   obtain ⟨s0,s1,s2,s3,s4,s5,s6,s7,_⟩:=H6.out.2.1
   have c1:=H6.out.1.2.1
   have c2:=H6.out.1.2.2.1
   have c3:=H6.out.1.2.2.2.1
   simp only at s0 s1 s2 s3 s4 s5 s6 s7 c1 c2 c3
   go_wp2_with fail
   refine (KZ2.out _ H6.out.2.2.1).mono ?_
   rintro e W7 ⟨rfl,H7⟩
   have HB:Hid (Below w.heap.size w W7):=H6.out.2.2.2.trans (H7.out.mono H6.out.2.2.2.size)
   clear H7 H6 s0 s1 s2 s3 s4 s5 s6 s7 c0 c1 c2 c3 KZ2
   by_cases hs:65535<sz
   ·have hs':(65535:Int)<(sz:Int):=by omega
    have HE2:Hid (C=3):=by have:=HE.out;rw[if_pos hs] at this;exact this
    clear HE
    go_wp2_with fail
    go_ret
    exact ⟨by rw[HE2.out];rfl,HB.out⟩
   ·have hs':¬ (65535:Int)<(sz:Int):=by omega
    have HE2:Hid (C=0):=by have:=HE.out;rw[if_neg hs] at this;exact this
    clear HE
    go_wp2_with fail
    go_ret
    exact ⟨by rw[HE2.out];rfl,HB.out⟩
theorem own_mono{B B':Nat}{w:World}{v:Value}{n:Nat}{zs:List Int}(h:Own B w v n zs)(hB:B'<=B):Own B' w v n zs:=by
 rcases h with h|⟨g,h1,h2,h3⟩
 ·exact .inl h
 ·exact .inr ⟨g,h1,Nat.le_trans hB h2,h3⟩
theorem rd_none{w:World}{zs:List Int}(h:Rd w none zs):zs=[]:=by
 rcases h.1 with h1|⟨b,o,e,_⟩
 ·exact h1
 ·cases e
theorem neq_ptr_same(a:Addr)(w:World):(binOp .neq 237 (.pointer (some a)) (.pointer (some a))).run Tryz.prog w=.ok (.bool false) w:=by
 obtain ⟨j,hi⟩:∃j,Tryz.prog.info? 252=some j:=Option.isSome_iff_exists.1 (by kernel_rfl)
 have h:∀d:Nat,(Op.equalIn (d+1) 237 (.pointer (some a)) (.pointer (some a))).run Tryz.prog w=.ok true w:=fun d=>by
  simp[Op.equalIn,run_underlying Tryz.underlying237,sizeOf,typeInfo,hi,run_sameAddr_same]
 simp only[binOp]
 simp[Op.equal,Op.maxDepth,h 9999]
theorem view0(a b c d:Value)(w:World):(Instr.field 257 (.agg #[a,b,c,d]) 0).run Tryz.prog w=.ok a w:=by kernel_rfl
theorem view1(a b c d:Value)(w:World):(Instr.field 257 (.agg #[a,b,c,d]) 1).run Tryz.prog w=.ok b w:=by kernel_rfl
theorem view2(a b c d:Value)(w:World):(Instr.field 257 (.agg #[a,b,c,d]) 2).run Tryz.prog w=.ok c w:=by kernel_rfl
theorem view3(a b c d:Value)(w:World):(Instr.field 257 (.agg #[a,b,c,d]) 3).run Tryz.prog w=.ok d w:=by kernel_rfl
theorem slice_is_nil(a:Option Addr)(n c:Nat)(w:World):(binOp .eql 46 (.slice a n c) (.slice none 0 0)).run Tryz.prog w=.ok (.bool a.isNone) w:=Lib.run_eql_slice_nil w _ _ _ _ _ _ _ Tryz.underlying46
attribute [local go_sem] view0 view1 view2 view3 slice_is_nil
theorem number_any(a:Option Addr)(len cap:Nat)(zs:List Int)(w:World)(hr:Rd w a zs)(hl:zs.length=len)(hm:len<=4) :
  Calls Tryz.prog 217 #[.slice a len cap] w fun e w'=>e=.returned (.int .u32 (val zs))/\w'=w:=by
 have HL:Hid (zs.length=len):=hl
 have HR:Hid (Rd w a zs):=hr
 clear hl hr
 go_enter Tryz.func217,Tryz.ntmps217
 go_wp2
 go_loop [3,8] (fun n i=>∃k:Nat,k<=len/\i=.int .i64 k/\n=.int .u32 (val (zs.take k))) (fun _ i=>len - (intOf i).toNat)
 case atStart=>exact ⟨0,Nat.zero_le _,rfl,rfl⟩
 case round=>
  obtain ⟨k,hk,rfl,rfl⟩:=hrel
  by_cases hlt:k<len
  ·rcases HR.out.1 with h1|⟨b,o,rfl,h1,h2⟩
   ·have:=HL.out;subst h1;simp at this;omega
   ·have hc:=h2 k (by rw[HL.out];exact hlt)
    have hb:=HR.out.bd k
    have hv:=val_small zs HR.out.2 k (by omega)
    clear h2
    have hlt':(k:Int)<(len:Int):=by omega
    go_wp2
    go_round
    case rel=>
     refine ⟨k+1,by omega,by go_num,?_⟩
     rw[take_snoc zs k (by rw[HL.out];exact hlt),val_snoc,<- List.getD_eq_getElem?_getD,u32_join _ _ hv.1 hv.2 hb.1 hb.2]
    case measure=>simp[intOf];omega
  ·obtain rfl:k=len:=by omega
   go_wp2
   go_ret
   have:zs.take k=zs:=List.take_of_length_le (by rw[HL.out];exact Nat.le_refl _)
   rw[this]
   exact ⟨rfl,rfl⟩
end Go.Proofs.YtjkljpdolhglcaaGreatDoor
namespace Go.Proofs.YtjkljpdolhglcaaGreatDoor
open Go.ChangeShapes Go.WideShapes Go.ChangeAt Go.RowKit
attribute [local go_sem] view0 view1 view2 view3 slice_is_nil
def RBlk(w:World)(g:Nat)(t:Value)(k:Int)(bad:Bool):Prop:=
 w.heap[g]?=some (.cells #[.pointer (some ⟨g,0,none⟩),t,.int .i64 k,.bool bad] 252 (0,0))
theorem RBlk.lt{w:World}{g:Nat}{t:Value}{k:Int}{bad:Bool}(h:RBlk w g t k bad):g<w.heap.size:=(Array.getElem?_eq_some_iff.1 h).1
theorem RBlk.c0{w:World}{g:Nat}{t:Value}{k:Int}{bad:Bool}(h:RBlk w g t k bad):w.cell? ⟨g,0,none⟩=some (.pointer (some ⟨g,0,none⟩)):=by
 have h':w.heap[g]?=_:=h
 simp[World.cell?,h']
theorem RBlk.c1{w:World}{g:Nat}{t:Value}{k:Int}{bad:Bool}(h:RBlk w g t k bad):w.cell? ⟨g,1,none⟩=some t:=by
 have h':w.heap[g]?=_:=h
 simp[World.cell?,h']
theorem RBlk.c2{w:World}{g:Nat}{t:Value}{k:Int}{bad:Bool}(h:RBlk w g t k bad):w.cell? ⟨g,2,none⟩=some (.int .i64 k):=by
 have h':w.heap[g]?=_:=h
 simp[World.cell?,h']
theorem RBlk.c3{w:World}{g:Nat}{t:Value}{k:Int}{bad:Bool}(h:RBlk w g t k bad):w.cell? ⟨g,3,none⟩=some (.bool bad):=by
 have h':w.heap[g]?=_:=h
 simp[World.cell?,h']
theorem RBlk.fz{w:World}{g:Nat}{t:Value}{k:Int}{bad:Bool}(h:RBlk w g t k bad)(i:Nat):w.frozen? ⟨g,i,none⟩=false:=by
 have h':w.heap[g]?=_:=h
 simp[World.frozen?,h']
theorem RBlk.same{w w':World}{g:Nat}{t:Value}{k:Int}{bad:Bool}(h:RBlk w g t k bad)(hb:w'.heap[g]?=w.heap[g]?):RBlk w' g t k bad:=hb.trans h
theorem RBlk.at{w:World}{g:Nat}{t:Value}{k:Int}{bad:Bool}(h:RBlk w g t k bad)(k':Int):RBlk (w.setCell ⟨g,2,none⟩ (.int .i64 k')) g t k' bad:=heap_set h 2 _
theorem piece_in(a:Option Addr)(len cap at_ n:Nat)(zs:List Int)(w:World)(hr:Rd w a zs)(hl:zs.length=len)(hc:len<=cap)(hm:len<=140737488355328)(hn:at_+n<=len) :
  Calls Tryz.prog 218 #[.slice a len cap,.int .i64 at_,.int .i64 n] w fun e w'=>(∃a',e=.returned (.tuple #[.slice a' n (cap - at_),.bool true])/\Hid ((∀W,Rd W a zs->Rd W a' ((zs.drop at_).take n))/\(a'=none->a=none)))/\w'=w:=by
 have HL:Hid (zs.length=len):=hl
 have HR:Hid (Rd w a zs):=hr
 clear hl hr
 have h1:¬ (at_:Int)<0:=by omega
 have h2:(at_:Int)<=(len:Int):=by omega
 have h3:¬ (n:Int)<0:=by omega
 have h4:(n:Int)<=(len:Int) - (at_:Int):=by omega
 go_enter Tryz.func218,Tryz.ntmps218
 go_wp2
 ·go_ret2
  exact ⟨⟨_,rfl,fun W hW=>hW.cut at_ n (by rw[HL.out];exact hn) (fun h b o e=>absurd h (by omega)),fun e=>e⟩,rfl⟩
 ·go_ret2
  exact ⟨⟨_,rfl,fun W hW=>hW.cut at_ n (by rw[HL.out];exact hn) (fun h b o e=>by subst e;simp[Addr.add]),fun e=>Option.map_eq_none_iff.1 e⟩,rfl⟩
theorem piece_out(a:Option Addr)(len cap:Nat)(at_ n:Int)(w:World)(hm:len<=140737488355328)
  (h:at_<0∨(0<=at_/\(len:Int)<at_)∨(0<=at_/\at_<=(len:Int)/\n<0)∨(0<=at_/\at_<=(len:Int)/\0<=n/\(len:Int) - at_<n)) :
  Calls Tryz.prog 218 #[.slice a len cap,.int .i64 at_,.int .i64 n] w fun e w'=>e=.returned (.tuple #[.slice none 0 0,.bool false])/\w'=w:=by
 rcases h with h|⟨h0,h⟩|⟨h0,h1,h⟩|⟨h0,h1,h2,h⟩
 ·go_enter Tryz.func218,Tryz.ntmps218
  go_wp2
  go_ret2
  exact ⟨rfl,rfl⟩
 ·go_enter Tryz.func218,Tryz.ntmps218
  go_wp2
  go_ret2
  exact ⟨rfl,rfl⟩
 ·go_enter Tryz.func218,Tryz.ntmps218
  go_wp2
  go_ret2
  exact ⟨rfl,rfl⟩
 ·go_enter Tryz.func218,Tryz.ntmps218
  go_wp2
  go_ret2
  exact ⟨rfl,rfl⟩
def Off(a:Option Addr)(g:Nat):Prop:=∀b o,a=some ⟨b,o,none⟩->b≠g
theorem Rd.grown{w w':World}{a:Option Addr}{zs:List Int}{g:Nat}(h:Rd w a zs)(hg:w.grownBy w' (some g))(ho:Off a g):Rd w' a zs:=by
 refine ⟨?_,h.2⟩
 rcases h.1 with h1|⟨b,o,rfl,h1,h2⟩
 ·exact .inl h1
 ·refine .inr ⟨b,o,rfl,Nat.lt_of_lt_of_le h1 hg.size,fun i hi=>?_⟩
  rw[<- h2 i hi]
  exact World.cell?_of_block (w:=w) (a:=⟨b,o+i,none⟩) (hg.block b h1 (fun e=>ho b o rfl (Option.some.inj e)))
theorem moved(g:Nat)(t:Value)(k k':Int)(w:World)(hb:RBlk w g t k false)(cs:Array Value) :
  RBlk ((w.setCell ⟨g,2,none⟩ (.int .i64 k')).alloc (.cells cs 257)) g t k' false/\((w.setCell ⟨g,2,none⟩ (.int .i64 k')).alloc (.cells cs 257)).heap[w.heap.size]?=some (.cells cs 257 (0,0))/\
  w.grownBy ((w.setCell ⟨g,2,none⟩ (.int .i64 k')).alloc (.cells cs 257)) (some g)/\((w.setCell ⟨g,2,none⟩ (.int .i64 k')).alloc (.cells cs 257)).heap.size=w.heap.size+1:=by
 have hsz:(w.setCell ⟨g,2,none⟩ (.int .i64 k')).heap.size=w.heap.size:=by simp[World.setCell]
 have hold:∀j,j<w.heap.size->((w.setCell ⟨g,2,none⟩ (.int .i64 k')).alloc (.cells cs 257)).heap[j]?=(w.setCell ⟨g,2,none⟩ (.int .i64 k')).heap[j]?:=fun j hj=>Below.heap_alloc _ _ j (by rw[hsz];exact hj)
 refine ⟨(hb.at k').same (hold g hb.lt),?_,⟨rfl,rfl,rfl,by simp[hsz],fun j hj hne=>?_⟩,by simp[hsz]⟩
 ·have:=heap_alloc_new (w.setCell ⟨g,2,none⟩ (.int .i64 k')) (.cells cs 257)
  rw[hsz] at this
  exact this
 ·rw[hold j hj]
  exact Below.heap_setCell _ _ _ j (fun e=>hne (by rw[e]))
theorem cells4{w:World}{s:Nat}{a b c d:Value}{t:TypeId}(h:w.heap[s]?=some (.cells #[a,b,c,d] t (0,0))) :
  w.cell? ⟨s,0,none⟩=some a/\w.cell? ⟨s,1,none⟩=some b/\w.cell? ⟨s,2,none⟩=some c/\w.cell? ⟨s,3,none⟩=some d/\∀i,w.frozen? ⟨s,i,none⟩=false:=by
 simp[World.cell?,World.frozen?,h]
theorem moved_end{w W1:World}{g s:Nat}{t:Value}{k':Int}{bad:Bool}(h:RBlk W1 g t k' bad/\w.grownBy W1 (some g))(hs:w.heap.size=s)(hg:g<s)(x0 x1 x2 x3:Value) :
  RBlk ((((W1.setCell ⟨s,0,none⟩ x0).setCell ⟨s,1,none⟩ x1).setCell ⟨s,2,none⟩ x2).setCell ⟨s,3,none⟩ x3) g t k' bad/\
  w.grownBy ((((W1.setCell ⟨s,0,none⟩ x0).setCell ⟨s,1,none⟩ x1).setCell ⟨s,2,none⟩ x2).setCell ⟨s,3,none⟩ x3) (some g):=by
 have hold:∀j,j<s->((((W1.setCell ⟨s,0,none⟩ x0).setCell ⟨s,1,none⟩ x1).setCell ⟨s,2,none⟩ x2).setCell ⟨s,3,none⟩ x3).heap[j]?=W1.heap[j]?:=by
  intro j hj
  have hne:j≠s:=by omega
  rw[Below.heap_setCell _ _ _ j hne,Below.heap_setCell _ _ _ j hne,Below.heap_setCell _ _ _ j hne,Below.heap_setCell _ _ _ j hne]
 refine ⟨h.1.same (hold g hg),h.2.os,h.2.tape,h.2.output,?_,fun j hj hne=>(hold j (by omega)).trans (h.2.block j hj hne)⟩
 have:=h.2.size
 simpa [World.setCell] using this
theorem move_here(g:Nat)(a:Option Addr)(len cap k n:Nat)(zs:List Int)(w:World)(hb:RBlk w g (.slice a len cap) k false)(hr:Rd w a zs)(hl:zs.length=len)(hc:len<=cap)(hm:len<=140737488355328)(hn:k+n<=len)(ho:Off a g) :
  Calls Tryz.prog 202 #[.pointer (some ⟨g,0,none⟩),.int .u8 0,.int .i64 n] w fun e w'=>∃ov,e=.returned (.agg #[.slice ov n (cap - k),.int .i64 ((k:Int)+(n:Int)),.int .i64 ((len:Int) - ((k:Int)+(n:Int))),.bool false])/\
   Hid (Rd w' ov ((zs.drop k).take n)/\(ov=none->a=none)/\RBlk w' g (.slice a len cap) ((k:Int)+(n:Int)) false/\w.grownBy w' (some g)):=by
 have HB:Hid (RBlk w g (.slice a len cap) k false):=hb
 have HR:Hid (Rd w a zs):=hr
 have HL:Hid (zs.length=len):=hl
 have HO:Hid (Off a g):=ho
 have hg:=hb.lt
 have c0:=hb.c0
 have c1:=hb.c1
 have c2:=hb.c2
 have c3:=hb.c3
 have f2:=hb.fz 2
 have hne:=neq_ptr_same ⟨g,0,none⟩
 clear hb hr hl ho
 go_enter Tryz.func202,Tryz.ntmps202
 go_wp2_with fail
 refine (piece_in a len cap k n zs _ (HR.out.below ((Below.refl _ _).alloc (Nat.le_refl _) _)) HL.out hc hm hn).mono ?_
 rintro e w' ⟨⟨ov,rfl,H1⟩,rfl⟩
 go_wp2_with fail
 have hkn:(k:Int)+(n:Int)<=(len:Int):=by omega
 have hw:IntKind.i64.wrap ((len:Int) - ((k:Int)+(n:Int)))=(len:Int) - ((k:Int)+(n:Int)):=by rw[IntKind.wrap_i64];omega
 have hgw:¬ w.heap.size=g:=by omega
 obtain ⟨m1,m2,m3,m4⟩:=moved g (.slice a len cap) k ((k:Int)+(n:Int)) w HB.out #[.slice none 0 0,.int .i64 0,.int .i64 0,.bool false]
 obtain ⟨v0,v1,v2,v3,v4⟩:=cells4 m2
 have d1:=m1.c1
 have d2:=m1.c2
 have HM:Hid (RBlk ((w.setCell ⟨g,2,none⟩ (.int .i64 ((k:Int)+(n:Int)))).alloc (.cells #[.slice none 0 0,.int .i64 0,.int .i64 0,.bool false] 257)) g (.slice a len cap) ((k:Int)+(n:Int)) false/\w.grownBy ((w.setCell ⟨g,2,none⟩ (.int .i64 ((k:Int)+(n:Int)))).alloc (.cells #[.slice none 0 0,.int .i64 0,.int .i64 0,.bool false] 257)) (some g)):=⟨m1,m3⟩
 clear m1 m2 m3 c0 c1 c2 c3 f2 hne
 generalize (w.setCell ⟨g,2,none⟩ (.int .i64 ((k:Int)+(n:Int)))).alloc (.cells #[.slice none 0 0,.int .i64 0,.int .i64 0,.bool false] 257)=W1 at*
 generalize hs:w.heap.size=s at*
 have HS:Hid (w.heap.size=s):=hs
 clear hs
 have v4a:=v4 0
 have v4b:=v4 1
 have v4c:=v4 2
 have v4d:=v4 3
 clear v4
 go_region_held3 (fun W=>W.cell? ⟨g,1,none⟩=some (.slice a len cap)/\W.cell? ⟨g,2,none⟩=some (.int .i64 ((k:Int)+(n:Int)))) (go_keep) (fail)
 go_wp2
 obtain ⟨h1,h2⟩:=H1.out
 have hM:=moved_end HM.out HS.out (by omega) (.slice ov n (cap - k)) (.int .i64 ((k:Int)+(n:Int))) (.int .i64 ((len:Int) - ((k:Int)+(n:Int)))) (.bool false)
 have hR:=h1 _ (HR.out.grown hM.2 HO.out)
 clear h1
 refine bodyPost_ret (v:=.agg #[.slice ov n (cap - k),.int .i64 ((k:Int)+(n:Int)),.int .i64 ((len:Int) - ((k:Int)+(n:Int))),.bool false]) ?_ rfl ⟨ov,rfl,hR,h2,hM.1,hM.2.os,hM.2.tape,hM.2.output,hM.2.size,hM.2.block⟩
 clear hM hR HM H1 HR HO
 simp[results,Tryz.results202,go_sem, *]
theorem spoilt(g:Nat)(t:Value)(k:Int)(w:World)(hb:RBlk w g t k false)(cs:Array Value) :
  RBlk (((((w.setCell ⟨g,0,none⟩ (.pointer (some ⟨g,0,none⟩))).setCell ⟨g,1,none⟩ (.slice none 0 0)).setCell ⟨g,2,none⟩ (.int .i64 0)).setCell ⟨g,3,none⟩ (.bool true)).alloc (.cells cs 257)) g (.slice none 0 0) 0 true/\
  w.grownBy (((((w.setCell ⟨g,0,none⟩ (.pointer (some ⟨g,0,none⟩))).setCell ⟨g,1,none⟩ (.slice none 0 0)).setCell ⟨g,2,none⟩ (.int .i64 0)).setCell ⟨g,3,none⟩ (.bool true)).alloc (.cells cs 257)) (some g):=by
 have h4:=heap_set (heap_set (heap_set (heap_set hb 0 (.pointer (some ⟨g,0,none⟩))) 1 (.slice none 0 0)) 2 (.int .i64 0)) 3 (.bool true)
 have hsz:((((w.setCell ⟨g,0,none⟩ (.pointer (some ⟨g,0,none⟩))).setCell ⟨g,1,none⟩ (.slice none 0 0)).setCell ⟨g,2,none⟩ (.int .i64 0)).setCell ⟨g,3,none⟩ (.bool true)).heap.size=w.heap.size:=by simp[World.setCell]
 have hoth:∀j,j≠g->((((w.setCell ⟨g,0,none⟩ (.pointer (some ⟨g,0,none⟩))).setCell ⟨g,1,none⟩ (.slice none 0 0)).setCell ⟨g,2,none⟩ (.int .i64 0)).setCell ⟨g,3,none⟩ (.bool true)).heap[j]?=w.heap[j]?:=by
  intro j hj
  rw[Below.heap_setCell _ _ _ j hj,Below.heap_setCell _ _ _ j hj,Below.heap_setCell _ _ _ j hj,Below.heap_setCell _ _ _ j hj]
 have hlt:=hb.lt
 have hgr:w.grownBy ((((w.setCell ⟨g,0,none⟩ (.pointer (some ⟨g,0,none⟩))).setCell ⟨g,1,none⟩ (.slice none 0 0)).setCell ⟨g,2,none⟩ (.int .i64 0)).setCell ⟨g,3,none⟩ (.bool true)) (some g):=⟨rfl,rfl,rfl,by rw[hsz];exact Nat.le_refl _,fun j _ hne=>hoth j (fun e=>hne (by rw[e]))⟩
 revert h4 hsz hoth hgr
 generalize ((((w.setCell ⟨g,0,none⟩ (.pointer (some ⟨g,0,none⟩))).setCell ⟨g,1,none⟩ (.slice none 0 0)).setCell ⟨g,2,none⟩ (.int .i64 0)).setCell ⟨g,3,none⟩ (.bool true))=W
 intro h4 hsz hoth hgr
 refine ⟨?_,?_⟩
 ·have:(W.alloc (.cells cs 257)).heap[g]?=W.heap[g]?:=Below.heap_alloc _ _ g (by omega)
  exact this.trans (h4.trans (by simp))
 ·exact ⟨hgr.os,hgr.tape,hgr.output,by simp;omega,fun j hj hne=>(Below.heap_alloc _ _ j (by omega)).trans (hgr.block j hj hne)⟩
theorem move_here_out(g:Nat)(a:Option Addr)(len cap:Nat)(k n:Int)(w:World)(hb:RBlk w g (.slice a len cap) k false)(hc:len<=cap)(hm:len<=140737488355328)(hk:0<=k/\k<=len)(hn:n<0∨(len:Int)<k+n) :
  Calls Tryz.prog 202 #[.pointer (some ⟨g,0,none⟩),.int .u8 0,.int .i64 n] w fun e w'=>e=.returned (.agg #[.slice none 0 0,.int .i64 0,.int .i64 0,.bool true])/\
   Hid (RBlk w' g (.slice none 0 0) 0 true/\w.grownBy w' (some g)):=by
 have HB:Hid (RBlk w g (.slice a len cap) k false):=hb
 have hg:=hb.lt
 have c0:=hb.c0
 have c1:=hb.c1
 have c2:=hb.c2
 have c3:=hb.c3
 have f0:=hb.fz 0
 have f1:=hb.fz 1
 have f2:=hb.fz 2
 have f3:=hb.fz 3
 have hne:=neq_ptr_same ⟨g,0,none⟩
 clear hb
 have HN:Hid (n<0∨(len:Int)<k+n):=hn
 clear hn
 go_enter Tryz.func202,Tryz.ntmps202
 go_wp2_with fail
 refine (piece_out a len cap k n _ hm (by have:=HN.out;omega)).mono ?_
 rintro e w' ⟨rfl,rfl⟩
 go_wp2_with fail
 have hM:=spoilt g _ _ w HB.out #[.slice none 0 0,.int .i64 0,.int .i64 0,.bool true]
 exact bodyPost_ret (v:=.agg #[.slice none 0 0,.int .i64 0,.int .i64 0,.bool true]) (by simp[results,Tryz.results202,go_sem]) rfl ⟨rfl,hM⟩
theorem move_isbad(g:Nat)(f n:Int)(t:Value)(k:Int)(w:World)(hb:RBlk w g t k true) :
  Calls Tryz.prog 202 #[.pointer (some ⟨g,0,none⟩),.int .u8 f,.int .i64 n] w fun e w'=>e=.returned (.agg #[.slice none 0 0,.int .i64 0,.int .i64 0,.bool true])/\Below w.heap.size w w':=by
 have hg:=hb.lt
 have c0:=hb.c0
 have c3:=hb.c3
 have hne:=neq_ptr_same ⟨g,0,none⟩
 clear hb
 go_enter Tryz.func202,Tryz.ntmps202
 go_wp2
 exact bodyPost_ret (v:=.agg #[.slice none 0 0,.int .i64 0,.int .i64 0,.bool true]) (by simp[results,Tryz.results202,go_sem]) rfl ⟨rfl,((Below.refl _ _).alloc (Nat.le_refl _) _)⟩
end Go.Proofs.YtjkljpdolhglcaaGreatDoor
