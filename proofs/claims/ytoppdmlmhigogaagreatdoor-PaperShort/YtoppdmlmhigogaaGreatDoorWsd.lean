/- Texts laid together, in parts: Pn Ya Wd Kd Aw Zo Ma Nab Nad Ppa Ppb Ppc Ppf Pph Ppi Rk Nwd Cw Ed Ee Ea Shp Ec Ef Eg Vw Jz Eh Ei. -/
import Derived.Test.YtoppdmlmhigogaaGreatDoorWsc
import Derived.Laws.AppendOwn
import Derived.Laws.OwnMore
import Derived.Deep.AppendLies
import Derived.Deep.CutBlock
import Derived.WalkMore
import Derived.Shelf.Strings.Trim
import Derived.Test.YtoppdmlmhigogaaGreatDoorProg
import Derived.Deep.QuietTactic
import Derived.Shelf.Strings.SlTrimAscii
import Derived.Maps.OwnSet
import Derived.Carry
import Derived.Shelf.Strings.Prefix
import Derived.Deep.RegionHeld3
import Derived.Lib.Hide
set_option maxRecDepth 100000
set_option maxHeartbeats 8000000
set_option linter.unusedVariables false
set_option linter.unusedSimpArgs false
namespace Go.Proofs.YtoppdmlmhigogaaGreatDoor
open Go.ChangeShapes Go.WideShapes Go.ChangeAt Go.RowKit
theorem tell_any(t:Nat)(x:DA)(d:Dat)(w:World)(h:DRd w x d)(hc:checkF t d=0)(hB:Bd d)(hL:LayT w) :
  Calls Tryz.prog 152 #[.int .u16 t,.agg #[.slice x.p1.a x.p1.n x.p1.c,.slice x.p2.a x.p2.n x.p2.c,.slice x.p3.a x.p3.n x.p3.c,.slice x.p4.a x.p4.n x.p4.c]] w (TLPost (xwords t d) w):=by
 obtain ⟨hm,hf,hn,hz⟩:=check_parts hc
 have hns:=hB.n
 have hus:=hB.u
 have hrl:d.raw.length<=65535:=by unfold sizesF at hz;omega
 unfold fitsB at hf
 simp only[Bool.and_eq_true,decide_eq_true_eq,Bool.or_eq_true,List.all_eq_true] at hf
 obtain ⟨⟨⟨⟨⟨⟨⟨f1,f2⟩,f3⟩,f4⟩,f5⟩,f6⟩,f7⟩,f8⟩:=hf
 rcases shp_cases t with ⟨ht,e⟩|⟨ht,e⟩|⟨ht,e⟩|⟨ht,e⟩|⟨ht,e⟩|⟨ht,e⟩|⟨ht,e⟩|⟨ht,e⟩|⟨ht,e⟩
 all_goals rw[e] at f1 f2 f3 f4 f5 f6
 all_goals simp only at f1 f2 f3 f4 f5 f6
 ·have hx:xwords t d=[lb ((xaddr d.raw).getD [])]:=by unfold xwords;rw[if_pos (.inl ht)]
  rw[hx]
  exact tell_addr t (.inl ht) x d w h (.inl (by omega)) hL
 ·have hx:xwords t d=[lb ((xaddr d.raw).getD [])]:=by unfold xwords;rw[if_pos (.inr ht)]
  rw[hx]
  exact tell_addr t (.inr ht) x d w h (.inr (by omega)) hL
 ·have e2:d.us=[]:=List.length_eq_zero_iff.1 f2
  have e3:d.ts=[]:=List.length_eq_zero_iff.1 (by omega)
  have hx:xwords t d=d.ns.map (fun n=>(ntext n).1):=by
   unfold xwords
   rw[if_neg (by omega),if_neg (by rcases ht with rfl|rfl|rfl <;> decide),if_neg (by omega),e2,e3]
   unfold xtw
   rw[if_neg (by omega)]
   simp
  rw[hx]
  exact tell_names t ht x d w h hn hns hL
 ·have hx:xwords t d=d.ns.map (fun n=>(ntext n).1)++d.us.map xnw:=by
   subst ht
   unfold xwords
   rw[if_neg (by omega),if_neg (by decide),if_pos rfl]
  rw[hx]
  exact tell_soa t ht x d w h hn hns hus hL
 ·have e3:d.ts=[]:=List.length_eq_zero_iff.1 (by omega)
  have hx:xwords t d=d.us.map xnw++d.ns.map (fun n=>(ntext n).1):=by
   subst ht
   unfold xwords
   rw[if_neg (by omega),if_neg (by decide),if_neg (by omega),e3]
   unfold xtw
   rw[if_neg (by omega)]
   simp
  rw[hx]
  exact tell_mx t (.inl ht) x d w h hn hns hus hL
 ·have e3:d.ts=[]:=List.length_eq_zero_iff.1 (by omega)
  have hx:xwords t d=d.us.map xnw++d.ns.map (fun n=>(ntext n).1):=by
   subst ht
   unfold xwords
   rw[if_neg (by omega),if_neg (by decide),if_neg (by omega),e3]
   unfold xtw
   rw[if_neg (by omega)]
   simp
  rw[hx]
  exact tell_mx t (.inr ht) x d w h hn hns hus hL
 ·have e1:d.ns=[]:=List.length_eq_zero_iff.1 f1
  have e2:d.us=[]:=List.length_eq_zero_iff.1 f2
  have hx:xwords t d=d.ts.map xqw:=by
   subst ht
   unfold xwords
   rw[if_neg (by omega),if_neg (by decide),if_neg (by omega),e1,e2]
   unfold xtw
   rw[if_neg (by omega)]
   simp
  have h7:∀s∈d.ts,s.size<=255:=by
   rcases f7 with h|h
   ·exact absurd ht h
   ·exact h
  have hl:d.ts.length<=65535:=by
   have h1:tsz t d.ts<=65535:=by unfold sizesF at hz;omega
   unfold tsz at h1
   rw[if_pos ht] at h1
   have h2:=nby_len d.ts
   have h3:=nsz_len d.ts
   omega
  rw[hx]
  exact tell_txt t ht x d w h (fun s hs=>by have:=h7 s hs;omega) (by omega) hL
 ·match hts:d.ts,f3 with
  |[s0,s1],_=>
   have hx:xwords t d=d.us.map xnw++xtw 257 d.ts:=by
    have e1:d.ns=[]:=List.length_eq_zero_iff.1 f1
    subst ht
    unfold xwords
    rw[if_neg (by omega),if_neg (by decide),if_neg (by omega),e1]
    simp
   have h1:tsz t d.ts<=65535:=by unfold sizesF at hz;omega
   unfold tsz at h1
   rw[if_neg (by omega),hts] at h1
   simp only[List.flatMap_cons,List.flatMap_nil,List.append_nil,nums_len] at h1
   rw[hx]
   exact tell_caa t ht x d w h hus s0 s1 hts (by omega) (by omega) hL
  |[],f3=>simp at f3
  |[a],f3=>simp at f3
  |a::b::c::r,f3=>simp at f3;omega
 ·obtain ⟨h1,h2,h3,h4,h5,h6,h7,h8,h9,h10⟩:=ht
  have hk:xkn t=false:=by simp[xkn,h1,h2,h3,h4,h5,h6,h7,h8,h9,h10]
  have hx:xwords t d=hashW d.raw:=by
   unfold xwords hashW
   rw[if_neg (by omega),if_pos hk]
  rw[hx]
  exact tell_hash t hk x d w h hrl hL
def wordsR(t:Nat)(d:Dat):List ByteArray:=if checkF t d=0 then xwords t d else []
def textR(t:Nat)(d:Dat):ByteArray:=lb (xjoin 32 ((wordsR t d).map nums))
def WdPost(t:Nat)(d:Dat)(w:World)(e:Ending)(w':World):Prop:=
 ∃v ys,e=.returned (.tuple #[v,.int .i64 (checkF t d)])/\Hid (OwnT w.heap.size w' v (wordsR t d).length ys 1000000/\ys.take (wordsR t d).length=wordsR t d/\Below w.heap.size w w')
theorem words_any(t:Nat)(x:DA)(d:Dat)(w:World)(h:DRd w x d)(hB:Bd d)(hL:LayT w) :
  Calls Tryz.prog 112 #[.int .u16 t,.agg #[.slice x.p1.a x.p1.n x.p1.c,.slice x.p2.a x.p2.n x.p2.c,.slice x.p3.a x.p3.n x.p3.c,.slice x.p4.a x.p4.n x.p4.c]] w (WdPost t d w):=by
 obtain ⟨⟨a1,n1,k1⟩,⟨a2,n2,k2⟩,⟨a3,n3,k3⟩,⟨a4,n4,k4⟩⟩:=x
 have hb0:Below w.heap.size w (w.alloc (.cells #[.slice a1 n1 k1,.slice a2 n2 k2,.slice a3 n3 k3,.slice a4 n4 k4] 41)):=(Below.refl _ _).alloc (Nat.le_refl _) _
 have H:Hid (DBox (w.alloc (.cells #[.slice a1 n1 k1,.slice a2 n2 k2,.slice a3 n3 k3,.slice a4 n4 k4] 41)) w.heap.size ⟨⟨a1,n1,k1⟩,⟨a2,n2,k2⟩,⟨a3,n3,k3⟩,⟨a4,n4,k4⟩⟩/\DRd (w.alloc (.cells #[.slice a1 n1 k1,.slice a2 n2 k2,.slice a3 n3 k3,.slice a4 n4 k4] 41)) ⟨⟨a1,n1,k1⟩,⟨a2,n2,k2⟩,⟨a3,n3,k3⟩,⟨a4,n4,k4⟩⟩ d/\Below w.heap.size w (w.alloc (.cells #[.slice a1 n1 k1,.slice a2 n2 k2,.slice a3 n3 k3,.slice a4 n4 k4] 41))/\LayT (w.alloc (.cells #[.slice a1 n1 k1,.slice a2 n2 k2,.slice a3 n3 k3,.slice a4 n4 k4] 41))):=⟨DBox.new w ⟨⟨a1,n1,k1⟩,⟨a2,n2,k2⟩,⟨a3,n3,k3⟩,⟨a4,n4,k4⟩⟩,h.below hb0,hb0,hL.below hb0⟩
 have KC:=Lib.hid (fun W (hd:DRd W ⟨⟨a1,n1,k1⟩,⟨a2,n2,k2⟩,⟨a3,n3,k3⟩,⟨a4,n4,k4⟩⟩ d)=>check_any t ⟨⟨a1,n1,k1⟩,⟨a2,n2,k2⟩,⟨a3,n3,k3⟩,⟨a4,n4,k4⟩⟩ d W hd hB)
 have KT:=Lib.hid (fun (hc:checkF t d=0) W (hd:DRd W ⟨⟨a1,n1,k1⟩,⟨a2,n2,k2⟩,⟨a3,n3,k3⟩,⟨a4,n4,k4⟩⟩ d) (hW:LayT W)=>tell_any t ⟨⟨a1,n1,k1⟩,⟨a2,n2,k2⟩,⟨a3,n3,k3⟩,⟨a4,n4,k4⟩⟩ d W hd hc hB hW)
 clear h hL hb0 hB
 simp only at KC KT ⊢
 have HWR:Hid (wordsR t d=if checkF t d=0 then xwords t d else []):=rfl
 obtain ⟨C,hC⟩:∃C,checkF t d=C:=⟨_,rfl⟩
 have HC:Hid (checkF t d=C):=hC
 rw[hC] at KC KT HWR
 clear hC
 go_enter Tryz.func112,Tryz.ntmps112
 have d0:=H.out.1.1
 have d1:=H.out.1.2.1
 have d2:=H.out.1.2.2.1
 have d3:=H.out.1.2.2.2.1
 simp only at d0 d1 d2 d3
 go_wp2_with fail
 generalize (w.alloc (.cells #[.slice a1 n1 k1,.slice a2 n2 k2,.slice a3 n3 k3,.slice a4 n4 k4] 41))=wa at*
 refine (KC.out _ H.out.2.1).mono ?_
 rintro e w2 ⟨rfl,H2⟩
 have HA:=Lib.hid (⟨H.out.1.below H2.out,H.out.2.1.below H2.out,H.out.2.2.1.trans (H2.out.mono H.out.2.2.1.size),H.out.2.2.2.below H2.out⟩:DBox w2 _ _/\DRd w2 _ _/\Below w.heap.size w w2/\LayT w2)
 clear d0 d1 d2 d3 H2 H KC
 by_cases h0:C=0
 ·subst h0
  rw[if_pos rfl] at HWR
  have d0:=HA.out.1.1
  have d1:=HA.out.1.2.1
  have d2:=HA.out.1.2.2.1
  have d3:=HA.out.1.2.2.2.1
  simp only at d0 d1 d2 d3
  go_wp2_with fail
  refine (KT.out (by first|rfl|trivial) _ HA.out.2.1 HA.out.2.2.2).mono ?_
  rintro e w3 ⟨v,ys,rfl,H3⟩
  have HB3:=Lib.hid (HA.out.2.2.1.trans (H3.out.2.2.mono HA.out.2.2.1.size))
  go_wp2_with fail
  go_ret2
  refine ⟨_,ys,by rw[HC.out];rfl,?_⟩
  rw[HWR.out]
  exact ⟨H3.out.1.mono HA.out.2.2.1.size,H3.out.2.1,HB3.out⟩
 ·have h0':(C != 0)=true:=by simp[h0]
  rw[if_neg h0] at HWR
  go_wp2_with fail
  go_ret2
  refine ⟨.slice none 0 0,[],by rw[HC.out];rfl,?_⟩
  rw[HWR.out]
  exact ⟨OwnT.nil _ _ _,rfl,HA.out.2.2.1⟩
theorem text13_any(t:Nat)(x:DA)(d:Dat)(w:World)(h:DRd w x d)(hB:Bd d)(hL:LayT w)(hlw:(wordsR t d).length<=100000) :
  Calls Tryz.prog 80 #[.int .u16 t,.agg #[.slice x.p1.a x.p1.n x.p1.c,.slice x.p2.a x.p2.n x.p2.c,.slice x.p3.a x.p3.n x.p3.c,.slice x.p4.a x.p4.n x.p4.c]] w fun e w'=>e=.returned (.tuple #[.string (textR t d),.int .i64 (checkF t d)])/\Hid (Below w.heap.size w w'):=by
 obtain ⟨⟨a1,n1,k1⟩,⟨a2,n2,k2⟩,⟨a3,n3,k3⟩,⟨a4,n4,k4⟩⟩:=x
 have hb0:Below w.heap.size w (w.alloc (.cells #[.slice a1 n1 k1,.slice a2 n2 k2,.slice a3 n3 k3,.slice a4 n4 k4] 41)):=(Below.refl _ _).alloc (Nat.le_refl _) _
 have H:Hid (DBox (w.alloc (.cells #[.slice a1 n1 k1,.slice a2 n2 k2,.slice a3 n3 k3,.slice a4 n4 k4] 41)) w.heap.size ⟨⟨a1,n1,k1⟩,⟨a2,n2,k2⟩,⟨a3,n3,k3⟩,⟨a4,n4,k4⟩⟩/\DRd (w.alloc (.cells #[.slice a1 n1 k1,.slice a2 n2 k2,.slice a3 n3 k3,.slice a4 n4 k4] 41)) ⟨⟨a1,n1,k1⟩,⟨a2,n2,k2⟩,⟨a3,n3,k3⟩,⟨a4,n4,k4⟩⟩ d/\Below w.heap.size w (w.alloc (.cells #[.slice a1 n1 k1,.slice a2 n2 k2,.slice a3 n3 k3,.slice a4 n4 k4] 41))/\LayT (w.alloc (.cells #[.slice a1 n1 k1,.slice a2 n2 k2,.slice a3 n3 k3,.slice a4 n4 k4] 41))):=⟨DBox.new w ⟨⟨a1,n1,k1⟩,⟨a2,n2,k2⟩,⟨a3,n3,k3⟩,⟨a4,n4,k4⟩⟩,h.below hb0,hb0,hL.below hb0⟩
 have KC:=Lib.hid (words_any t ⟨⟨a1,n1,k1⟩,⟨a2,n2,k2⟩,⟨a3,n3,k3⟩,⟨a4,n4,k4⟩⟩ d (w.alloc (.cells #[.slice a1 n1 k1,.slice a2 n2 k2,.slice a3 n3 k3,.slice a4 n4 k4] 41)) H.out.2.1 hB H.out.2.2.2)
 clear h hL hb0 hB
 simp only at KC ⊢
 have HTR:Hid (textR t d=lb (xjoin 32 ((wordsR t d).map nums))):=rfl
 unfold WdPost at KC
 generalize wordsR t d=l at*
 go_enter Tryz.func80,Tryz.ntmps80
 have d0:=H.out.1.1
 have d1:=H.out.1.2.1
 have d2:=H.out.1.2.2.1
 have d3:=H.out.1.2.2.2.1
 simp only at d0 d1 d2 d3
 go_wp2_with fail
 generalize (w.alloc (.cells #[.slice a1 n1 k1,.slice a2 n2 k2,.slice a3 n3 k3,.slice a4 n4 k4] 41))=wa at*
 refine KC.out.mono ?_
 rintro e w2 ⟨v,ys,rfl,H2⟩
 have HB2:=Lib.hid (H.out.2.2.1.trans (H2.out.2.2.mono H.out.2.2.1.size))
 obtain ⟨ao,rfl,hnil⟩:=H2.out.1.shape
 have KJ:Hid (Calls Tryz.prog 113 #[.slice ao l.length ys.length,.string ⟨#[32]⟩] w2 fun e w'=>e=.returned (.string (textR t d))/\Hid (Below w2.heap.size w2 w')):=by
  have hr:=H2.out.1.rd l.length
  rw[H2.out.2.1] at hr
  have hs:=H2.out.1.small H2.out.2.1
  have hm:=xjoin_len 32 (l.map nums) 1000000 (by
   intro p hp
   obtain ⟨s,hs',rfl⟩:=List.mem_map.1 hp
   rw[nums_len]
   exact hs s hs')
  rw[List.length_map] at hm
  have hm2:l.length*(1000000+1)<=100000*1000001:=Nat.mul_le_mul_right _ hlw
  rw[HTR.out]
  exact join_any 32 ao l.length ys.length l w2 hr rfl H2.out.1.le.1 (by omega) (by show (xjoin 32 _).length<=_;omega)
 clear KC H2 hnil d0 d1 d2 d3 HTR
 generalize l.length=n at*
 generalize ys.length=yl at*
 obtain ⟨R,hR⟩:∃R,textR t d=R:=⟨_,rfl⟩
 have HRR:Hid (textR t d=R):=hR
 rw[hR] at KJ
 clear hR
 go_wp2_with fail
 refine KJ.out.mono ?_
 rintro e w3 ⟨rfl,H3⟩
 have HB3:=Lib.hid (HB2.out.trans (H3.out.mono HB2.out.size))
 go_wp2_with fail
 go_ret2
 exact ⟨by rw[HRR.out];rfl,HB3.out⟩
instance (l:List Int) (k:Nat):Decidable (okp l k):=by unfold okp;infer_instance
instance :DecidableEq Wd:=inferInstance
def Box(w:World)(b:Nat)(s pre:ByteArray)(most:Int):Prop:=
 w.cell? ⟨b,0,none⟩=some (.string s)/\w.cell? ⟨b,1,none⟩=some (.string pre)/\w.cell? ⟨b,2,none⟩=some (.int .i64 most)/\b<w.heap.size
theorem Box.new(w:World)(s pre:ByteArray)(most:Int):Box (w.alloc (.cells #[.string s,.string pre,.int .i64 most] 159)) w.heap.size s pre most:=by
 refine ⟨?_,?_,?_,by simp⟩ <;> (unfold World.cell?;rw[heap_alloc_new];rfl)
theorem Box.below{w w':World}{b:Nat}{s pre:ByteArray}{most:Int}(h:Box w b s pre most)(hb:Below w.heap.size w w'):Box w' b s pre most:=
 ⟨(hb.cell (p:=⟨b,0,none⟩) h.2.2.2).trans h.1,(hb.cell (p:=⟨b,1,none⟩) h.2.2.2).trans h.2.1,(hb.cell (p:=⟨b,2,none⟩) h.2.2.2).trans h.2.2.1,Nat.lt_of_lt_of_le h.2.2.2 hb.size⟩
theorem cat_txt(a:ByteArray)(l:List UInt8):a++(⟨l.toArray⟩:ByteArray)=⟨(a.data.toList++l).toArray⟩:=by
 apply ByteArray.ext
 simp
def typesB:ByteArray:=⟨#[65,32,49,32,78,83,32,50,32,67,78,65,77,69,32,53,32,83,79,65,32,54,32,80,84,82,32,49,50,32,77,88,32,49,53,32,84,88,84,32,49,54,32,65,65,65,65,32,50,56,32,83,82,86,32,51,51,32,79,80,84,32,52,49,32,65,78,89,32,50,53,53,32,67,65,65,32,50,53,55]⟩
def typesP:ByteArray:=⟨#[84,89,80,69]⟩
def typesW:Own4:=[([65],1),([78,83],2),([67,78,65,77,69],5),([83,79,65],6),([80,84,82],12),([77,88],15),([84,88,84],16),([65,65,65,65],28),([83,82,86],33),([79,80,84],41),([65,78,89],255),([67,65,65],257)]
theorem typesOk:KOk typesB typesW:=by
 refine ⟨by decide +kernel,?_,?_,by decide,by decide⟩
 ·intro j b h
  have:∀x∈typesB.data.toList,x.toNat<128:=by decide +kernel
  exact this b (List.mem_of_getElem? h)
 ·have e:flatC typesW=[[65],[49],[78,83],[50],[67,78,65,77,69],[53],[83,79,65],[54],[80,84,82],[49,50],[77,88],[49,53],[84,88,84],[49,54],[65,65,65,65],[50,56],[83,82,86],[51,51],[79,80,84],[52,49],[65,78,89],[50,53,53],[67,65,65],[50,53,55]]:=by simp[flatC,typesW,dec_small,dec_big]
  rw[e]
  decide +kernel
theorem types_any(w:World):Calls Tryz.prog 114 #[] w fun e w'=>e=.returned (.agg #[.string typesB,.string typesP,.int .i64 (65535:Nat)])/\Hid (Below w.heap.size w w'):=by
 go_enter Tryz.func114,Tryz.ntmps114
 go_wp2_with fail
 refine bodyPost_ret (v:=.agg #[.string typesB,.string typesP,.int .i64 (65535:Nat)]) (by simp[results,Tryz.results114,go_sem];exact ⟨rfl,rfl⟩) rfl ⟨rfl,?_⟩
 exact (Below.refl _ _).alloc (Nat.le_refl _) _
def classesB:ByteArray:=⟨#[73,78,32,49,32,67,72,32,51,32,72,83,32,52,32,78,79,78,69,32,50,53,52,32,65,78,89,32,50,53,53]⟩
def classesP:ByteArray:=⟨#[67,76,65,83,83]⟩
def classesW:Own4:=[([73,78],1),([67,72],3),([72,83],4),([78,79,78,69],254),([65,78,89],255)]
theorem classesOk:KOk classesB classesW:=by
 refine ⟨by decide +kernel,?_,?_,by decide,by decide⟩
 ·intro j b h
  have:∀x∈classesB.data.toList,x.toNat<128:=by decide +kernel
  exact this b (List.mem_of_getElem? h)
 ·have e:flatC classesW=[[73,78],[49],[67,72],[51],[72,83],[52],[78,79,78,69],[50,53,52],[65,78,89],[50,53,53]]:=by simp[flatC,classesW,dec_small,dec_big]
  rw[e]
  decide +kernel
theorem classes_any(w:World):Calls Tryz.prog 151 #[] w fun e w'=>e=.returned (.agg #[.string classesB,.string classesP,.int .i64 (65535:Nat)])/\Hid (Below w.heap.size w w'):=by
 go_enter Tryz.func151,Tryz.ntmps151
 go_wp2_with fail
 refine bodyPost_ret (v:=.agg #[.string classesB,.string classesP,.int .i64 (65535:Nat)]) (by simp[results,Tryz.results151,go_sem];exact ⟨rfl,rfl⟩) rfl ⟨rfl,?_⟩
 exact (Below.refl _ _).alloc (Nat.le_refl _) _
def storedF(t:Int):Bool:=decide (t≠0) && decide (t≠41) && (decide (t<128) || decide (255<t))
theorem stored_any(t:Int)(w:World):Calls Tryz.prog 62 #[.int .u16 t] w fun e w'=>e=.returned (.bool (storedF t))/\w'=w:=by
 go_enter Tryz.func62,Tryz.ntmps62
 by_cases h0:t=0
 ·subst h0
  go_wp2_with fail
  go_ret
  exact ⟨ret_bool (by decide),rfl⟩
 ·by_cases h1:t=41
  ·subst h1
   go_wp2_with fail
   go_ret
   exact ⟨ret_bool (by decide),rfl⟩
  ·have q0:(t == 0)=false:=by simp[h0]
   have q1:(t == 41)=false:=by simp[h1]
   go_wp2_with fail
   refine (asked_any t w).mono ?_
   rintro e W ⟨rfl,rfl⟩
   go_wp2_with fail
   go_ret
   refine ⟨ret_bool ?_,rfl⟩
   simp[storedF,h0,h1]
   by_cases h2:t<128
   ·simp[h2];omega
   ·by_cases h3:255<t
    ·simp[h3];omega
    ·simp[h2,h3];omega
def qz:Cf:=⟨0,1,0,[],0,false,[],[]⟩
structure Rec where
 ow:List ByteArray
 t:Nat
 cl:Nat
 tt:Nat
 d:Dat
theorem data_txt(s:ByteArray):s.data.toList=txt (nums s):=by
 have:=congrArg (fun b:ByteArray=>b.data.toList) (txt_back s)
 simpa using this.symm
theorem data_of{s:ByteArray}{l:List Int}(h:nums s=l):s.data.toList=txt l:=by rw[data_txt,h]
theorem txt_app(a b:List Int):txt (a++b)=txt a++txt b:=by simp[txt]
theorem bw_tx1n:∀n:Fin 256,bwS false (txt (tx1 (n.val:Int)))=true/\(txt (tx1 (n.val:Int))).length ≥ 1/\(∀c,(txt (tx1 (n.val:Int))).head?=some c->c≠36/\c≠46/\c≠64):=by
 have h:∀n:Fin 256,(bwS false (txt (tx1 (n.val:Int))) && (decide ((txt (tx1 (n.val:Int))).length ≥ 1)) && (match (txt (tx1 (n.val:Int))).head? with|none=>false|some c=>c != 36 && c != 46 && c != 64))=true:=by decide +kernel
 intro n
 have:=h n
 simp only[Bool.and_eq_true,decide_eq_true_eq] at this
 refine ⟨this.1.1,this.1.2,fun c hc=>?_⟩
 have h2:=this.2
 rw[hc] at h2
 simp at h2
 exact ⟨h2.1.1,h2.1.2,h2.2⟩
theorem bw_tx1{c:Int}(h:0<=c/\c<=255):bwS false (txt (tx1 c))=true/\(txt (tx1 c)).length ≥ 1/\(∀x,(txt (tx1 c)).head?=some x->x≠36/\x≠46/\x≠64):=by
 have:=bw_tx1n ⟨c.toNat,by omega⟩
 simp only at this
 rw[show ((c.toNat:Nat):Int)=c by omega] at this
 exact this
def flatR:List ByteArray->List Int
 |[]=>[]
 |[s]=>tx (nums s)
 |s::t::r=>tx (nums s)++(46::flatR (t::r))
theorem flat_flatR:∀l:List ByteArray,l≠[]->flat l=flatR l++[46]
 |[],h=>absurd rfl h
 |[s],_=>by simp[flat,flatR]
 |s::t::r,_=>by
  have:=flat_flatR (t::r) (by simp)
  have e:flat (s::t::r)=tx (nums s)++[46]++flat (t::r):=by simp[flat]
  rw[e,this]
  simp[flatR]
theorem lab_ne{s:ByteArray}(h:chk s.size=0):∃c l,nums s=c::l/\0<=c/\c<=255:=by
 have hs:=chk_ok h
 have hl:=nums_len s
 cases hn:nums s with
 |nil=>rw[hn] at hl;simp at hl;omega
 |cons c l=>exact ⟨c,l,rfl,nums_all s c (by rw[hn];simp)⟩
theorem headT{s:ByteArray}(h:chk s.size=0)(R:List UInt8):∃x r,txt (tx (nums s))++R=x::r/\x≠36/\x≠46/\x≠64:=by
 obtain ⟨c,l,e,hc⟩:=lab_ne h
 have h1:=bw_tx1 hc
 have e1:txt (tx (nums s))=txt (tx1 c)++txt (tx l):=by rw[e];simp[tx,txt]
 cases ht:txt (tx1 c) with
 |nil=>rw[ht] at h1;simp at h1
 |cons x r=>
  have:=h1.2.2 x (by rw[ht];rfl)
  exact ⟨x,r++txt (tx l)++R,by rw[e1,ht];simp,this⟩
theorem flatR_head{l:List ByteArray}(h:l≠[])(hok:labsOk l):∃x r,txt (flatR l)=x::r/\x≠36/\x≠46/\x≠64:=by
 obtain ⟨s,t,rfl⟩:=List.exists_cons_of_ne_nil h
 have hs:=hok s (by simp)
 cases t with
 |nil=>
  have:=headT hs []
  simpa [flatR] using this
 |cons t r=>
  have e:txt (flatR (s::t::r))=txt (tx (nums s))++(46::txt (flatR (t::r))):=by simp[flatR,txt]
  rw[e]
  exact headT hs _
theorem lgo_flatR:∀(ss:List ByteArray) (out:List ByteArray),ss≠[]->labsOk ss->lgo (flatR ss) out=(out++ss,false,0)
 |[],_,h,_=>absurd rfl h
 |[s],out,_,hok=>by
  have hs:=chk_ok (hok s (by simp))
  have hp:=pres_tx (nums s) [] (nums_all s) (.inl rfl) (by rw[nums_len];exact hs)
  rw[List.append_nil] at hp
  have hlb:lb (nums s)=s:=txt_back s
  show lgo (tx (nums s)) out=_
  rw[lgo,hp]
  simp[hlb]
 |s::t::r,out,_,hok=>by
  have hs:=chk_ok (hok s (by simp))
  have hf:flatR (s::t::r)=tx (nums s)++(46::flatR (t::r)):=rfl
  have hp:=pres_tx (nums s) (46::flatR (t::r)) (nums_all s) (.inr ⟨_,rfl⟩) (by rw[nums_len];exact hs)
  rw[<- hf] at hp
  have hd:(flatR (s::t::r)).drop ((tx (nums s)).length+1)=flatR (t::r):=by
   rw[hf,List.drop_append,List.drop_eq_nil_of_le (by omega),Nat.add_sub_cancel_left];rfl
  have hlb:lb (nums s)=s:=txt_back s
  rw[lgo,hp]
  simp only[if_true,Int.toNat_natCast,hd,hlb]
  rw[if_neg (by rw[hf,List.length_append];simp;omega)]
  have hok':labsOk (t::r):=fun x hx=>hok x (by simp[hx])
  have hne:¬ (flatR (t::r)).length=0:=by
   obtain ⟨x,q,e,_⟩:=flatR_head (l:=t::r) (by simp) hok'
   have:=congrArg List.length e
   rw[txt_len] at this
   rw[this];simp
  rw[dif_neg hne,lgo_flatR (t::r) (out++[s]) (by simp) hok']
  simp
def relT(ss:List ByteArray):ByteArray:=⟨(txt (flatR ss)).toArray⟩
theorem flatR_bd:∀l:List ByteArray,∀z∈flatR l,0<=z/\z<=255
 |[],z,h=>by cases h
 |[s],z,h=>tx_bd _ (nums_all s) z h
 |s::t::r,z,h=>by
  rcases List.mem_append.1 (show z∈tx (nums s)++(46::flatR (t::r)) from h) with h|h
  ·exact tx_bd _ (nums_all s) z h
  ·rcases List.mem_cons.1 h with rfl|h
   ·omega
   ·exact flatR_bd (t::r) z h
theorem nums_relT(ss:List ByteArray):nums (relT ss)=flatR ss:=nums_back _ (flatR_bd ss)
theorem text_rel(ss:List ByteArray)(h:nck ss=0)(h0:ss≠[]):(ntext ss).1=relT ss++⟨#[46]⟩:=by
 have e:(ntext ss).1=ntxt ss:=by
  unfold ntext
  rw[if_pos h,if_neg (fun e=>h0 (List.eq_nil_of_length_eq_zero e))]
 rw[e]
 apply ba_inj
 rw[ba_toList,ba_toList,data_of (nums_ntxt ss),flat_flatR ss h0,txt_app]
 simp[relT,txt]
theorem rel_rel{ow og:List ByteArray}(h:nck ow=0)(h0:ow≠[])(hg:nck og=0):nrel (relT ow) og=njoin ow og:=by
 have hok:=(nck_small h).2
 obtain ⟨x,r,e,hx⟩:=flatR_head h0 hok
 have e2:(relT ow).toList=x::r:=by rw[ba_toList];simpa [relT] using e
 unfold nrel
 rw[if_pos hg,if_neg (by rw[e2];intro q;injection q with q;exact hx.2.2 q),if_neg (by rw[e2];intro q;injection q with q;exact hx.2.1 q)]
 simp only[nums_relT,lgo_flatR ow [] h0 hok,List.nil_append,if_true,Bool.false_eq_true,if_false]
theorem text_size{ss:List ByteArray}(h:nck ss=0):(ntext ss).1.size<=1020:=by
 unfold ntext
 rw[if_pos h]
 split
 ·decide
 ·have h1:=ntxt_size ss ss.length (Nat.le_refl _)
  rw[List.take_length] at h1
  have:=(nck_small h).1
  show (ntxt ss).size<=1020
  omega
end Go.Proofs.YtoppdmlmhigogaaGreatDoor
namespace Go.Proofs.YtoppdmlmhigogaaGreatDoor
def shF(n og:List ByteArray):ByteArray:=
 if n=og then ⟨#[64]⟩
 else if og=[]∨n.length<og.length∨n.drop (n.length - og.length)≠og then (ntext n).1
 else relT (n.take (n.length - og.length))
theorem rel_at(og:List ByteArray)(h:nck og=0):nrel ⟨#[64]⟩ og=(og,0):=by
 unfold nrel
 rw[if_pos h,if_pos (by rw[ba_toList])]
theorem sh_rel{n og:List ByteArray}(hn:nck n=0)(hg:nck og=0):nrel (shF n og) og=(n,0):=by
 unfold shF
 split
 ·rename_i e;rw[rel_at og hg,e]
 ·rename_i hne
  split
  ·exact rel_text n og hn hg
  ·rename_i h
   simp only[not_or,Classical.not_not] at h
   obtain ⟨h1,h2,h3⟩:=h
   have hn2:n.take (n.length - og.length)++og=n:=by
    conv=>rhs;rw[<- List.take_append_drop (n.length - og.length) n,h3]
   have h0:n.take (n.length - og.length)≠[]:=fun e=>hne (by rw[e] at hn2;exact hn2.symm)
   rw[rel_rel (nck_take n _ hn) h0 hg]
   unfold njoin
   rw[if_pos (nck_take n _ hn),if_pos hg,hn2,if_pos hn]
theorem text_ne{ss:List ByteArray}(h:nck ss=0)(h0:ss≠[]):(ntext ss).1=ntxt ss:=by
 unfold ntext
 rw[if_pos h,if_neg (fun e=>h0 (List.eq_nil_of_length_eq_zero e))]
theorem text_pos{ss:List ByteArray}(h:nck ss=0):1<=(ntext ss).1.size:=by
 cases ss with
 |nil=>unfold ntext;rw[if_pos h];exact Nat.le_refl _
 |cons a r=>
  rw[text_rel _ h (by simp),ByteArray.size_append]
  exact Nat.le_add_left _ _
theorem flat_append(a b:List ByteArray):flat (a++b)=flat a++flat b:=by simp[flat]
theorem ntxt_sz(l:List ByteArray):(ntxt l).size=(flat l).length:=by
 rw[<- nums_ntxt,nums_len]
theorem sh_len{n og:List ByteArray}(hn:nck n=0)(hg:nck og=0):(shF n og).size<=(ntext n).1.size:=by
 unfold shF
 split
 ·exact text_pos hn
 ·rename_i hne
  split
  ·exact Nat.le_refl _
  ·rename_i h
   simp only[not_or,Classical.not_not] at h
   obtain ⟨h1,h2,h3⟩:=h
   have hn2:n.take (n.length - og.length)++og=n:=by
    conv=>rhs;rw[<- List.take_append_drop (n.length - og.length) n,h3]
   have h0:n.take (n.length - og.length)≠[]:=fun e=>hne (by rw[e] at hn2;exact hn2.symm)
   have hn0:n≠[]:=fun e=>by rw[e] at h0;simp at h0
   have e1:=congrArg ByteArray.size (text_rel _ (nck_take n (n.length - og.length) hn) h0)
   rw[text_ne (nck_take n _ hn) h0,ntxt_sz,ByteArray.size_append] at e1
   have e2:(flat n).length=(flat (n.take (n.length - og.length))).length+(flat og).length:=by
    conv=>lhs;rw[<- hn2,flat_append]
    simp
   rw[text_ne hn hn0,ntxt_sz]
   have e3:(⟨#[46]⟩:ByteArray).size=1:=rfl
   omega
def blkP:Option (List ByteArray × Nat)->Rec->Bool
 |none,_=>false
 |some q,r=>decide (q.1=r.ow)
def clsP:Option (List ByteArray × Nat)->Rec->Bool
 |none,r=>decide (r.cl≠1)
 |some q,r=>decide (q.2≠r.cl)
end Go.Proofs.YtoppdmlmhigogaaGreatDoor
namespace Go.Proofs.YtoppdmlmhigogaaGreatDoor
open Go.Lib
def tlT(n:Nat):ByteArray:=⟨(decDigits n).toArray⟩
def tyW(n:Nat):ByteArray:=⟨(tellF typesW typesP.data.toList n).toArray⟩
def clT(n:Nat):ByteArray:=if n=255 then ⟨(classesP.data.toList++decDigits 255).toArray⟩ else ⟨(tellF classesW classesP.data.toList n).toArray⟩
def jn32:List ByteArray->List UInt8
 |[]=>[]
 |[a]=>a.data.toList
 |a::b::r=>a.data.toList++32::jn32 (b::r)
def tailP(r:Rec):List UInt8:=(tyW r.t).data.toList++32::(jn32 (xwords r.t r.d)++[10])
def lineP(r:Rec):List UInt8:=(ntext r.ow).1.data.toList++32::((tlT r.tt).data.toList++32::((clT r.cl).data.toList++32::tailP r))
def stepP(og:List ByteArray)(q:Option (List ByteArray × Nat))(r:Rec):List UInt8:=
 (if blkP q r then [32] else (shF r.ow og).data.toList++[32])++((tlT r.tt).data.toList++32::((if clsP q r then (clT r.cl).data.toList++[32] else [])++tailP r))
def textP(og:List ByteArray):Option (List ByteArray × Nat)->List Rec->List UInt8
 |_,[]=>[]
 |q,r::l=>stepP og q r++textP og (some (r.ow,r.cl)) l
def cORGs:List UInt8:=[36,79,82,73,71,73,78,32]
set_option maxRecDepth 100000
def lA:ByteArray:=⟨#[97]⟩
def lB:ByteArray:=⟨#[98]⟩
def exA:Rec:=⟨[lA,lB],1,1,60,⟨[],[],[],[1,2,3,4]⟩⟩
def exT:Rec:=⟨[lA,lB],16,1,60,⟨[],[],[⟨#[120]⟩],[]⟩⟩
def exC:Rec:=⟨[lB],1,3,5,⟨[],[],[],[1,2,3,5]⟩⟩
def wrongF(r:Rec):Int:=
 if nck r.ow≠0 then nck r.ow else if storedF r.t=false then 6 else if checkF r.t r.d≠0 then checkF r.t r.d else if 2147483647<r.tt then 2 else 0
def wrongsF:List Rec->Int
 |[]=>0
 |r::l=>if wrongF r=0 then wrongsF l else wrongF r
def allP(og:List ByteArray)(l:List Rec):List UInt8:=cORGs++((ntext og).1.data.toList++10::textP og none l)
def paperF(og:List ByteArray)(l:List Rec):List UInt8 × Int:=
 if nck og≠0 then ([],nck og) else if 2048<l.length then ([],3) else if wrongsF l≠0 then ([],wrongsF l) else if 65536<(allP og l).length then ([],3) else (allP og l,0)
theorem wrongs_ok:∀{l:List Rec},wrongsF l=0->∀r∈l,wrongF r=0
 |[],_,r,hr=>by cases hr
 |x::l,h,r,hr=>by
  unfold wrongsF at h
  split at h
  ·rename_i h1
   rcases List.mem_cons.1 hr with rfl|hr
   ·exact h1
   ·exact wrongs_ok h r hr
  ·rename_i h1;exact absurd h h1
end Go.Proofs.YtoppdmlmhigogaaGreatDoor
namespace Go.Proofs.YtoppdmlmhigogaaGreatDoor
open Go.ChangeShapes Go.WideShapes Go.ChangeAt Go.RowKit
structure RA where
 o:Sl
 d:DA
def recCells(x:RA)(r:Rec):List Value:=[.slice x.o.a x.o.n x.o.c,.int .u16 r.t,.int .u16 r.cl,.int .u32 r.tt,.slice x.d.p1.a x.d.p1.n x.d.p1.c,.slice x.d.p2.a x.d.p2.n x.d.p2.c,.slice x.d.p3.a x.d.p3.n x.d.p3.c,.slice x.d.p4.a x.d.p4.n x.d.p4.c]
def cellsR(ps:List (RA × Rec)):List Value:=ps.flatMap fun p=>recCells p.1 p.2
theorem cellsR_at(ps:List (RA × Rec))(k:Nat)(h:k<ps.length)(j:Nat)(hj:j<8):(cellsR ps)[k*8+j]?=(recCells ps[k].1 ps[k].2)[j]?:=by
 induction ps generalizing k with
 |nil=>simp at h
 |cons p ws ih=>
  have hc:cellsR (p::ws)=recCells p.1 p.2++cellsR ws:=by simp[cellsR]
  have h8:(recCells p.1 p.2).length=8:=rfl
  rw[hc]
  cases k with
  |zero=>rw[List.getElem?_append_left (by rw[h8];omega)];simp
  |succ k=>
   have:=ih k (by simpa using h)
   rw[List.getElem?_append_right (by rw[h8];omega),h8,show (k+1)*8+j - 8=k*8+j by omega,this]
   simp
def RRd(w:World)(x:RA)(r:Rec):Prop:=TRd w x.o r.ow/\DRd w x.d r.d
theorem RRd.below{w w':World}{x:RA}{r:Rec}(h:RRd w x r)(hb:Below w.heap.size w w'):RRd w' x r:=⟨h.1.below hb,h.2.below hb⟩
def RdR(w:World)(a:Option Addr)(rs:List Rec):Prop:=
 rs=[]∨∃b o,a=some ⟨b,o,none⟩/\b<w.heap.size/\∀i (h:i<rs.length),∃x:RA,(∀j (hj:j<8),w.cell? ⟨b,o+i*8+j,none⟩=(recCells x rs[i])[j]?)/\RRd w x rs[i]
theorem RdR.below{w w':World}{a:Option Addr}{rs:List Rec}(h:RdR w a rs)(hb:Below w.heap.size w w'):RdR w' a rs:=by
 rcases h with h|⟨b,o,h1,h2,h3⟩
 ·exact .inl h
 ·refine .inr ⟨b,o,h1,Nat.lt_of_lt_of_le h2 hb.size,fun i hi=>?_⟩
  obtain ⟨x,e1,e5⟩:=h3 i hi
  exact ⟨x,fun j hj=>(hb.cell (p:=⟨b,o+i*8+j,none⟩) h2).trans (e1 j hj),e5.below hb⟩
theorem RdR.at{w:World}{a:Option Addr}{rs:List Rec}(h:RdR w a rs)(i:Nat)(hi:i<rs.length):∃b o,a=some ⟨b,o,none⟩/\b<w.heap.size/\∃x:RA,(∀j (hj:j<8),w.cell? ⟨b,o+i*8+j,none⟩=(recCells x rs[i])[j]?)/\RRd w x rs[i]:=by
 rcases h with h|⟨b,o,h1,h2,h3⟩
 ·subst h;simp at hi
 ·exact ⟨b,o,h1,h2,h3 i hi⟩
structure Nw(w:World)(a:Option Addr)(n:Nat)(ss:List ByteArray):Prop where
 rd:RdT w a ss
 len:ss.length=n
 n3:n<=1000
 z63:∀s∈ss,s.size<=9223372036854775807
theorem Nw.below{w w':World}{a:Option Addr}{n:Nat}{ss:List ByteArray}(h:Nw w a n ss)(hb:Below w.heap.size w w'):Nw w' a n ss:=⟨h.rd.below hb,h.len,h.n3,h.z63⟩
theorem nsz_lab:∀ss:List ByteArray,labsOk ss->nsz ss<=1+64*ss.length
 |[],_=>by simp[nsz]
 |s::r,h=>by
  have h1:=(chk_ok (h s (by simp))).2
  have h2:=nsz_lab r (fun x hx=>h x (by simp[hx]))
  simp only[nsz,List.length_cons]
  omega
theorem Nw.nm{w:World}{a:Option Addr}{n:Nat}{ss:List ByteArray}(h:Nw w a n ss)(hk:nck ss=0):Nm w a n ss:=⟨h.rd,h.len,by have:=(nck_small hk).1;omega⟩
theorem wcheck{w:World}{a:Option Addr}{n:Nat}{ss:List ByteArray}(c:Nat)(h:Nw w a n ss):Calls Tryz.prog 19 #[.slice a n c] w fun e w'=>e=.returned (.int .i64 (nck ss))/\w'=w:=
 pcheck_wide a n c ss w h.rd h.len (fun ho=>by have:=nsz_lab ss ho;have:=h.len;have:=h.n3;omega) (by have:=h.n3;omega) h.z63
theorem cword_any(s pre:ByteArray)(most:Int)(ps:Own4)(n:Nat)(hn:n<65536)(hpre:pre.size<=100)(w:World)(hK:KOk s ps)(hL:LayT w) :
  Calls Tryz.prog 115 #[.agg #[.string s,.string pre,.int .i64 most],.int .i64 n] w fun e w'=>e=.returned (.string ⟨(tellF ps pre.data.toList n).toArray⟩)/\Hid (Below w.heap.size w w'):=by
 have HL:Hid (LayT w):=hL
 have HK:Hid (KOk s ps):=hK
 have HX:Hid (Box (w.alloc (.cells #[.string s,.string pre,.int .i64 most] 159)) w.heap.size s pre most):=Box.new w s pre most
 have HB:Hid (Below w.heap.size w (w.alloc (.cells #[.string s,.string pre,.int .i64 most] 159))):=(Below.refl _ _).alloc (Nat.le_refl _) _
 clear hL hK
 go_enter Tryz.func115,Tryz.ntmps115
 go_wp2_with fail
 generalize (w.alloc (.cells #[.string s,.string pre,.int .i64 most] 159))=W1 at*
 refine (itoa_nat n (by omega) W1 (HL.out.below HB.out)).mono ?_
 rintro e W2 ⟨rfl,H2⟩
 have HX2:Hid (Box W2 w.heap.size s pre most):=HX.out.below H2.out
 have HB2:Hid (Below w.heap.size w W2):=HB.out.trans (H2.out.mono HB.out.size)
 have c0:=HX2.out.1
 clear HX HB H2
 go_wp2_with fail
 refine (fields_any s ps W2 HK.out (HL.out.below HB2.out)).mono ?_
 rintro e W3 ⟨rfl,H3⟩
 have HX3:Hid (Box W3 w.heap.size s pre most):=HX2.out.below H3.out.1
 have HB3:Hid (Below w.heap.size w W3):=HB2.out.trans (H3.out.1.mono HB2.out.size)
 have HC:Hid (∀j p,ps[j]?=some p->W3.cell? ⟨W2.heap.size,2*j,none⟩=some (.string ⟨p.1.toArray⟩)/\W3.cell? ⟨W2.heap.size,2*j+1,none⟩=some (.string ⟨(Lib.decDigits p.2).toArray⟩)):=H3.out.2
 have hN:=HK.out.2.2.2.1
 obtain ⟨N,eN⟩:∃N,ps.length=N:=⟨_,rfl⟩
 have HN:Hid (ps.length=N):=eN
 rw[eN] at hN ⊢
 clear c0 HX2 HB2 H3 eN HK
 generalize W2.heap.size=g at*
 go_wp2_with fail
 go_loopw [7] (fun x wr=>wr=W3/\∃j:Nat,j<=N/\x=.int .i64 ((2*j+1:Nat):Int)/\Hid (∀p∈ps.take j,(p.2 == n)=false)) (fun x _=>2*N+1 - (intOf x).toNat)
 case atStart=>exact ⟨rfl,0,Nat.zero_le _,rfl,by intro p hp;simp at hp⟩
 case round=>
  obtain ⟨rfl,j,hj,rfl,HF⟩:=hrel
  obtain ⟨i,ei⟩:∃i:Nat,2*j+1=i:=⟨_,rfl⟩
  by_cases hlt:j<N
  ·obtain ⟨p,hp⟩:∃p,ps[j]?=some p:=⟨_,List.getElem?_eq_getElem (by rw[HN.out];exact hlt)⟩
   obtain ⟨c1,c2⟩:=HC.out j p hp
   rw[ei] at c2 ⊢
   have hb1:(i:Int)<((2*N:Nat):Int):=by omega
   have hs1:IntKind.i64.wrap ((i:Int) - 1)=((2*j:Nat):Int):=by rw[IntKind.wrap_i64];omega
   have hs2:(((2*j:Nat):Int))<((2*N:Nat):Int):=by omega
   have HS:Hid (((p.2 == n)=true->ps.find? (fun q=>q.2 == n)=some p)/\((p.2 == n)=false->∀q∈ps.take (j+1),(q.2 == n)=false)):=find_step (fun (q:List UInt8 × Nat)=>q.2 == n) ps j HF.out p hp
   obtain ⟨m,hm⟩:∃m,2*j=m:=⟨_,rfl⟩
   rw[hm] at c1 hs1 hs2
   by_cases he:p.2=n
   ·have hq:((Lib.decDigits p.2) == (Lib.decDigits n))=true:=by rw[he];simp
    go_wp2_with fail
    go_ret
    refine ⟨?_,HB3.out⟩
    have:=HS.out.1 (by simp[he])
    simp[tellF,this]
   ·have hq:((Lib.decDigits p.2) == (Lib.decDigits n))=false:=by
     cases h:(Lib.decDigits p.2) == (Lib.decDigits n) with
     |false=>rfl
     |true=>exact absurd (dec_inj (eq_of_beq h)) he
    have HS2:Hid (∀q∈ps.take (j+1),(q.2 == n)=false):=HS.out.2 (by simp[he])
    clear c1 hs1 hs2 HS he
    go_wp2_with fail
    refine ⟨⟨by first|rfl|trivial,j+1,by omega,?_,HS2⟩,?_⟩
    ·rw[<- ei];go_num
    ·simp[intOf];omega
  ·have hjN:j=N:=by omega
   have hb1:¬ (i:Int)<((2*N:Nat):Int):=by omega
   have HT:Hid (ps.find? (fun (q:List UInt8 × Nat)=>q.2 == n)=none):=find_end (fun (q:List UInt8 × Nat)=>q.2 == n) ps j HF.out (by rw[HN.out];omega)
   have c1:=HX3.out.2.1
   rw[ei]
   clear HF HC
   have hcat:¬ 9223372036854775807<pre.size+(Lib.decDigits n).length:=by
    have:=dec_len n (by omega)
    omega
   go_wp2_with fail
   go_ret
   refine ⟨?_,HB3.out⟩
   have:=HT.out
   rw[cat_txt]
   simp[tellF,this]
theorem ctype_any(n:Nat)(hn:n<65536)(w:World)(hL:LayT w):Calls Tryz.prog 81 #[.int .u16 n] w fun e w'=>e=.returned (.string ⟨(tellF typesW typesP.data.toList n).toArray⟩)/\Hid (Below w.heap.size w w'):=by
 have HL:Hid (LayT w):=hL
 clear hL
 go_enter Tryz.func81,Tryz.ntmps81
 go_wp2_with fail
 refine (types_any w).mono ?_
 rintro e W1 ⟨rfl,H1⟩
 have hw:IntKind.i64.wrap (n:Int)=(n:Int):=by rw[IntKind.wrap_i64];omega
 go_wp2_with fail
 refine (cword_any typesB typesP _ typesW n hn (by decide +kernel) W1 typesOk (HL.out.below H1.out)).mono ?_
 rintro e W2 ⟨rfl,H2⟩
 go_wp2_with fail
 go_ret
 exact ⟨rfl,H1.out.trans (H2.out.mono H1.out.size)⟩
theorem cclass_any(n:Nat)(hn:n<65536)(w:World)(hL:LayT w):Calls Tryz.prog 111 #[.int .u16 n] w fun e w'=>e=.returned (.string ⟨(tellF classesW classesP.data.toList n).toArray⟩)/\Hid (Below w.heap.size w w'):=by
 have HL:Hid (LayT w):=hL
 clear hL
 go_enter Tryz.func111,Tryz.ntmps111
 go_wp2_with fail
 refine (classes_any w).mono ?_
 rintro e W1 ⟨rfl,H1⟩
 have hw:IntKind.i64.wrap (n:Int)=(n:Int):=by rw[IntKind.wrap_i64];omega
 go_wp2_with fail
 refine (cword_any classesB classesP _ classesW n hn (by decide +kernel) W1 classesOk (HL.out.below H1.out)).mono ?_
 rintro e W2 ⟨rfl,H2⟩
 go_wp2_with fail
 go_ret
 exact ⟨rfl,H1.out.trans (H2.out.mono H1.out.size)⟩
theorem bx_cell{W:World}{D i:Nat}{cs:Array Value}{ty:TypeId}{v:Value}(hD:W.heap[D]?=some (.cells cs ty))(hv:cs[i]?=some v):W.cell? ⟨D,i,none⟩=some v:=by
 simp[World.cell?,hD,hv]
theorem check29_any(x:RA)(r:Rec)(w:World)(h:RRd w x r)(hn:x.o.n<=1000)(hB:Bd r.d) :
  Calls Tryz.prog 29 #[.agg (recCells x r).toArray] w fun e w'=>e=.returned (.int .i64 (wrongF r))/\Hid (Below w.heap.size w w'):=by
 obtain ⟨⟨oa,on,oc⟩,⟨⟨a1,n1,k1⟩,⟨a2,n2,k2⟩,⟨a3,n3,k3⟩,⟨a4,n4,k4⟩⟩⟩:=x
 obtain ⟨ow,t,cl,tt,d⟩:=r
 have hw:Nw w oa on ow:=⟨h.1.rd,h.1.len,hn,h.1.z63⟩
 have hb0:=new_below w (.cells #[.slice oa on oc,.int .u16 (t:Int),.int .u16 (cl:Int),.int .u32 (tt:Int),.slice a1 n1 k1,.slice a2 n2 k2,.slice a3 n3 k3,.slice a4 n4 k4] 43)
 have KN:=Lib.hid (wcheck oc (hw.below hb0))
 have KS:=Lib.hid (fun W=>stored_any (t:Int) W)
 have KC:=Lib.hid (check_any t ⟨⟨a1,n1,k1⟩,⟨a2,n2,k2⟩,⟨a3,n3,k3⟩,⟨a4,n4,k4⟩⟩ d _ (h.2.below hb0) hB)
 have HB0:=Lib.hid hb0
 have HC3:Hid (∀W,Below (w.alloc (.cells #[.slice oa on oc,.int .u16 (t:Int),.int .u16 (cl:Int),.int .u32 (tt:Int),.slice a1 n1 k1,.slice a2 n2 k2,.slice a3 n3 k3,.slice a4 n4 k4] 43)).heap.size (w.alloc (.cells #[.slice oa on oc,.int .u16 (t:Int),.int .u16 (cl:Int),.int .u32 (tt:Int),.slice a1 n1 k1,.slice a2 n2 k2,.slice a3 n3 k3,.slice a4 n4 k4] 43)) W->W.cell? ⟨w.heap.size,3,none⟩=some (.int .u32 (tt:Int))/\w.heap.size<W.heap.size):=fun W hW=>by
  have h1:(w.alloc (.cells #[.slice oa on oc,.int .u16 (t:Int),.int .u16 (cl:Int),.int .u32 (tt:Int),.slice a1 n1 k1,.slice a2 n2 k2,.slice a3 n3 k3,.slice a4 n4 k4] 43)).heap[w.heap.size]?=some (.cells #[.slice oa on oc,.int .u16 (t:Int),.int .u16 (cl:Int),.int .u32 (tt:Int),.slice a1 n1 k1,.slice a2 n2 k2,.slice a3 n3 k3,.slice a4 n4 k4] 43):=heap_alloc_new _ _
  have h2:=(hW.block w.heap.size (by simp)).trans h1
  exact ⟨bx_cell h2 rfl,(Array.getElem?_eq_some_iff.1 h2).1⟩
 have HR:Hid (wrongF ⟨ow,t,cl,tt,d⟩=if nck ow≠0 then nck ow else if storedF t=false then 6 else if checkF t d≠0 then checkF t d else if 2147483647<tt then 2 else 0):=rfl
 show Calls Tryz.prog 29 #[.agg #[.slice oa on oc,.int .u16 (t:Int),.int .u16 (cl:Int),.int .u32 (tt:Int),.slice a1 n1 k1,.slice a2 n2 k2,.slice a3 n3 k3,.slice a4 n4 k4]] w fun e w'=>e=.returned (.int .i64 (wrongF ⟨ow,t,cl,tt,d⟩))/\Hid (Below w.heap.size w w')
 rw[HR.out]
 clear h hb0 HR hw hn hB
 simp only at KC
 generalize checkF t d=q at*
 generalize storedF (t:Int)=sb at*
 generalize nck ow=k at*
 by_cases hk:k=0
 ·subst hk
  rw[if_neg (fun e=>e rfl)]
  cases sb with
  |false=>
   rw[if_pos rfl]
   clear KC HC3
   go_enter Tryz.func29,Tryz.ntmps29
   go_wp2_with fail
   refine KN.out.mono ?_
   rintro e w1 ⟨rfl,rfl⟩
   go_wp2_with fail
   refine (KS.out _).mono ?_
   rintro e w1 ⟨rfl,rfl⟩
   go_wp2_with fail
   go_ret
   exact ⟨rfl,HB0.out⟩
  |true=>
   rw[if_neg (by decide)]
   by_cases hq:q=0
   ·subst hq
    rw[if_neg (fun e=>e rfl)]
    by_cases ht:2147483647<tt
    ·rw[if_pos ht]
     have ht':(2147483647:Int)<(tt:Int):=by omega
     go_enter Tryz.func29,Tryz.ntmps29
     go_wp2_with fail
     refine KN.out.mono ?_
     rintro e w1 ⟨rfl,rfl⟩
     go_wp2_with fail
     refine (KS.out _).mono ?_
     rintro e w1 ⟨rfl,rfl⟩
     go_wp2_with fail
     refine KC.out.mono ?_
     rintro e w2 ⟨rfl,H2⟩
     obtain ⟨c3,l3⟩:=HC3.out _ H2.out
     have HB:=Lib.hid (HB0.out.trans (H2.out.mono HB0.out.size))
     go_wp2_with fail
     go_ret
     exact ⟨rfl,HB.out⟩
    ·rw[if_neg ht]
     have ht':¬ (2147483647:Int)<(tt:Int):=by omega
     go_enter Tryz.func29,Tryz.ntmps29
     go_wp2_with fail
     refine KN.out.mono ?_
     rintro e w1 ⟨rfl,rfl⟩
     go_wp2_with fail
     refine (KS.out _).mono ?_
     rintro e w1 ⟨rfl,rfl⟩
     go_wp2_with fail
     refine KC.out.mono ?_
     rintro e w2 ⟨rfl,H2⟩
     obtain ⟨c3,l3⟩:=HC3.out _ H2.out
     have HB:=Lib.hid (HB0.out.trans (H2.out.mono HB0.out.size))
     go_wp2_with fail
     go_ret
     exact ⟨rfl,HB.out⟩
   ·rw[if_pos hq]
    have hq':(q != 0)=true:=bne_iff_ne.2 hq
    clear HC3
    go_enter Tryz.func29,Tryz.ntmps29
    go_wp2_with fail
    refine KN.out.mono ?_
    rintro e w1 ⟨rfl,rfl⟩
    go_wp2_with fail
    refine (KS.out _).mono ?_
    rintro e w1 ⟨rfl,rfl⟩
    go_wp2_with fail
    refine KC.out.mono ?_
    rintro e w2 ⟨rfl,H2⟩
    have HB:=Lib.hid (HB0.out.trans (H2.out.mono HB0.out.size))
    go_wp2_with fail
    go_ret
    exact ⟨rfl,HB.out⟩
 ·rw[if_pos hk]
  have hq':(k != 0)=true:=bne_iff_ne.2 hk
  clear KC KS HC3
  go_enter Tryz.func29,Tryz.ntmps29
  go_wp2_with fail
  refine KN.out.mono ?_
  rintro e w1 ⟨rfl,rfl⟩
  go_wp2_with fail
  go_ret
  exact ⟨rfl,HB0.out⟩
theorem cword79_any(n:Nat)(hn:n<65536)(w:World)(hL:LayT w):Calls Tryz.prog 79 #[.int .u16 (n:Int)] w fun e w'=>e=.returned (.string (clT n))/\Hid (Below w.heap.size w w'):=by
 by_cases h:n=255
 ·subst h
  have hR:clT 255=⟨#[67,76,65,83,83,50,53,53]⟩:=by
   unfold clT
   rw[if_pos rfl]
   decide +kernel
  rw[hR]
  clear hL
  go_enter Tryz.func79,Tryz.ntmps79
  go_wp2_with fail
  go_ret
  exact ⟨rfl,Below.refl _ _⟩
 ·have hR:clT n=⟨(tellF classesW classesP.data.toList n).toArray⟩:=by unfold clT;rw[if_neg h]
  rw[hR]
  have KC:=Lib.hid (cclass_any n hn w hL)
  generalize tellF classesW classesP.data.toList n=T at*
  have h':((n:Int) == 255)=false:=by simp;omega
  clear hL
  go_enter Tryz.func79,Tryz.ntmps79
  go_wp2_with fail
  refine KC.out.mono ?_
  rintro e w1 ⟨rfl,H1⟩
  go_wp2_with fail
  go_ret
  exact ⟨rfl,H1.out⟩
theorem lb_app5(a b:List Int):lb (a++b)=lb a++lb b:=by
 apply ByteArray.ext
 simp[lb,txt]
theorem jn_lb:∀l:List ByteArray,(lb (xjoin 32 (l.map nums))).data.toList=jn32 l
 |[]=>rfl
 |[a]=>by show (lb (nums a)).data.toList=_;rw[lb_nums];rfl
 |a::b::r=>by
  have ih:=jn_lb (b::r)
  have e:xjoin 32 ((a::b::r).map nums)=nums a++([32]++xjoin 32 ((b::r).map nums)):=rfl
  rw[e,lb_app5,lb_app5,lb_nums]
  simp only[ByteArray.data_append,Array.toList_append,ih]
  rfl
theorem text_jn{t:Nat}{d:Dat}(hc:checkF t d=0):(textR t d).data.toList=jn32 (xwords t d):=by
 unfold textR wordsR
 rw[if_pos hc,jn_lb]
def midP(o:ByteArray)(cls:Bool)(r:Rec):List UInt8:=o.data.toList++32::((tlT r.tt).data.toList++32::((if cls=true then (clT r.cl).data.toList++[32] else [])++tailP r))
structure PlS(w0 w:World)(b:Nat)(C:Array Value)(W:World)(l:List UInt8):Prop where
 g:G2 w0.heap.size W b (Lib.byteCells l)
 lo:Below w0.heap.size w W
 of:OffB b w W
 bx:W.heap[w.heap.size]?=some (.cells C 43)
 hs:w0.heap.size<=W.heap.size
theorem PlS.go{w0 w W W':World}{b:Nat}{C:Array Value}{l:List UInt8}(h:PlS w0 w b C W l)(hb:Below W.heap.size W W'):PlS w0 w b C W' l:=
 ⟨h.g.go hb,h.lo.trans (hb.mono h.hs),h.of.trans (OffB.of hb),(hb.block _ (lt_block h.bx)).trans h.bx,Nat.le_trans h.hs hb.size⟩
theorem PlS.put{w0 w W W':World}{b:Nat}{C:Array Value}{l l':List UInt8}(h:PlS w0 w b C W l)(hne:w.heap.size≠b)(h1:G2 w0.heap.size W' b (Lib.byteCells l'))(h2:Below w0.heap.size W W')(h3:OffB b W W'):PlS w0 w b C W' l':=
 ⟨h1,h.lo.trans h2,h.of.trans h3,h3 _ _ _ _ h.bx (by decide) hne,Nat.le_trans h.hs h2.size⟩
theorem PlS.cells{w0 w W:World}{b:Nat}{v0 v1 v2 v3 v4 v5 v6 v7:Value}{l:List UInt8}(h:PlS w0 w b #[v0,v1,v2,v3,v4,v5,v6,v7] W l) :
  W.cell? ⟨w.heap.size,0,none⟩=some v0/\W.cell? ⟨w.heap.size,1,none⟩=some v1/\W.cell? ⟨w.heap.size,2,none⟩=some v2/\W.cell? ⟨w.heap.size,3,none⟩=some v3/\W.cell? ⟨w.heap.size,4,none⟩=some v4/\W.cell? ⟨w.heap.size,5,none⟩=some v5/\W.cell? ⟨w.heap.size,6,none⟩=some v6/\W.cell? ⟨w.heap.size,7,none⟩=some v7/\w.heap.size<W.heap.size:=
 ⟨bx_cell h.bx rfl,bx_cell h.bx rfl,bx_cell h.bx rfl,bx_cell h.bx rfl,bx_cell h.bx rfl,bx_cell h.bx rfl,bx_cell h.bx rfl,bx_cell h.bx rfl,lt_block h.bx⟩
theorem PlS.puts{w0 w W:World}{b n:Nat}{C:Array Value}{l:List UInt8}(h:PlS w0 w b C W l)(hb:w0.heap.size<=b)(hne:w.heap.size≠b)(ss:List ByteArray)(hn:ss.length=n)(hn2:n<=1000)(hl:l.length+(catP ss).length<=140737488355328) :
  Calls Tryz.prog 64 #[.pointer (some ⟨b,0,none⟩),.slice (some ⟨W.heap.size,0,none⟩) n n] (W.alloc (.cells (tv ss).toArray 9)) fun e w'=>e=.returned (.tuple #[])/\Hid (PlS w0 w b C w' (l++catP ss)):=by
 have h2:=h.go (new_below W (.cells (tv ss).toArray 9))
 refine (put64_any w0.heap.size b W.heap.size 0 n l ss _ h2.g hb (PcT.new W ss) hn hn2 hl).mono ?_
 rintro e w' ⟨rfl,H⟩
 exact ⟨rfl,h2.put hne H.out.1 H.out.2.1 H.out.2.2⟩
theorem pline41_any(w0 w:World)(b:Nat)(l:List UInt8)(o:ByteArray)(x:RA)(r:Rec)(cls:Bool)(hb:w0.heap.size<=b)(hB:Below w0.heap.size w0 w)(hg:G2 w0.heap.size w b (Lib.byteCells l))(hx:RRd w0 x r)(hL:LayT w0)
  (hc:checkF r.t r.d=0) (hD:Bd r.d) (ht:r.t<65536) (hcl:r.cl<65536) (htt:r.tt<4294967296) (hwl:(wordsR r.t r.d).length<=100000) (hz:l.length+(midP o cls r).length<=140737488355328) :
  Calls Tryz.prog 41 #[.pointer (some ⟨b,0,none⟩),.string o,.agg (recCells x r).toArray,.bool cls] w fun e w'=>e=.returned (.tuple #[])/\Hid (G2 w0.heap.size w' b (Lib.byteCells (l++midP o cls r))/\Below w0.heap.size w w'/\OffB b w w'):=by
 obtain ⟨⟨oa,on,oc⟩,⟨⟨a1,n1,k1⟩,⟨a2,n2,k2⟩,⟨a3,n3,k3⟩,⟨a4,n4,k4⟩⟩⟩:=x
 obtain ⟨ow,t,cl,tt,d⟩:=r
 have hne:w.heap.size≠b:=by obtain ⟨p,v,e⟩:=hg.at;have:=lt_block e;omega
 have hbx:(w.alloc (.cells #[.slice oa on oc,.int .u16 (t:Int),.int .u16 (cl:Int),.int .u32 (tt:Int),.slice a1 n1 k1,.slice a2 n2 k2,.slice a3 n3 k3,.slice a4 n4 k4] 43)).heap[w.heap.size]?=some (.cells #[.slice oa on oc,.int .u16 (t:Int),.int .u16 (cl:Int),.int .u32 (tt:Int),.slice a1 n1 k1,.slice a2 n2 k2,.slice a3 n3 k3,.slice a4 n4 k4] 43):=heap_alloc_new _ _
 have H0:Hid (PlS w0 w b #[.slice oa on oc,.int .u16 (t:Int),.int .u16 (cl:Int),.int .u32 (tt:Int),.slice a1 n1 k1,.slice a2 n2 k2,.slice a3 n3 k3,.slice a4 n4 k4] (w.alloc (.cells #[.slice oa on oc,.int .u16 (t:Int),.int .u16 (cl:Int),.int .u32 (tt:Int),.slice a1 n1 k1,.slice a2 n2 k2,.slice a3 n3 k3,.slice a4 n4 k4] 43)) l):=⟨hg.go (new_below _ _),(new_below _ _).mono hB.size,OffB.of (new_below _ _),hbx,Nat.le_trans hB.size (new_below w (.cells #[.slice oa on oc,.int .u16 (t:Int),.int .u16 (cl:Int),.int .u32 (tt:Int),.slice a1 n1 k1,.slice a2 n2 k2,.slice a3 n3 k3,.slice a4 n4 k4] 43)).size⟩
 have HW:Hid (∀W l',PlS w0 w b #[.slice oa on oc,.int .u16 (t:Int),.int .u16 (cl:Int),.int .u32 (tt:Int),.slice a1 n1 k1,.slice a2 n2 k2,.slice a3 n3 k3,.slice a4 n4 k4] W l'->RRd W ⟨⟨oa,on,oc⟩,⟨⟨a1,n1,k1⟩,⟨a2,n2,k2⟩,⟨a3,n3,k3⟩,⟨a4,n4,k4⟩⟩⟩ ⟨ow,t,cl,tt,d⟩/\LayT W):=fun W l' h=>⟨hx.below (hB.trans h.lo),hL.below (hB.trans h.lo)⟩
 have KF:=Lib.hid (fun W (h:PlS w0 w b #[.slice oa on oc,.int .u16 (t:Int),.int .u16 (cl:Int),.int .u32 (tt:Int),.slice a1 n1 k1,.slice a2 n2 k2,.slice a3 n3 k3,.slice a4 n4 k4] W l)=>(fmt10 tt (by show tt<_;have:tt<4294967296:=htt;omega) W (HW.out W l h).2).mono (R':=fun e w'=>e=.returned (.string (tlT tt))/\Hid (PlS w0 w b #[.slice oa on oc,.int .u16 (t:Int),.int .u16 (cl:Int),.int .u32 (tt:Int),.slice a1 n1 k1,.slice a2 n2 k2,.slice a3 n3 k3,.slice a4 n4 k4] w' l)) fun e w' q=>⟨q.1,h.go q.2.out⟩)
 have KC:=Lib.hid (fun W {l'} (h:PlS w0 w b #[.slice oa on oc,.int .u16 (t:Int),.int .u16 (cl:Int),.int .u32 (tt:Int),.slice a1 n1 k1,.slice a2 n2 k2,.slice a3 n3 k3,.slice a4 n4 k4] W l')=>(cword79_any cl hcl W (HW.out W l' h).2).mono (R':=fun e w'=>e=.returned (.string (clT cl))/\Hid (PlS w0 w b #[.slice oa on oc,.int .u16 (t:Int),.int .u16 (cl:Int),.int .u32 (tt:Int),.slice a1 n1 k1,.slice a2 n2 k2,.slice a3 n3 k3,.slice a4 n4 k4] w' l')) fun e w' q=>⟨q.1,h.go q.2.out⟩)
 have KT:=Lib.hid (fun W l' (h:PlS w0 w b #[.slice oa on oc,.int .u16 (t:Int),.int .u16 (cl:Int),.int .u32 (tt:Int),.slice a1 n1 k1,.slice a2 n2 k2,.slice a3 n3 k3,.slice a4 n4 k4] W l')=>(text13_any t ⟨⟨a1,n1,k1⟩,⟨a2,n2,k2⟩,⟨a3,n3,k3⟩,⟨a4,n4,k4⟩⟩ d W (HW.out W l' h).1.2 hD (HW.out W l' h).2 hwl).mono (R':=fun e w'=>e=.returned (.tuple #[.string (textR t d),.int .i64 0])/\Hid (PlS w0 w b #[.slice oa on oc,.int .u16 (t:Int),.int .u16 (cl:Int),.int .u32 (tt:Int),.slice a1 n1 k1,.slice a2 n2 k2,.slice a3 n3 k3,.slice a4 n4 k4] w' l')) fun e w' q=>⟨by rw[q.1];simp only at hc;rw[hc],h.go q.2.out⟩)
 have KY:=Lib.hid (fun W l' (h:PlS w0 w b #[.slice oa on oc,.int .u16 (t:Int),.int .u16 (cl:Int),.int .u32 (tt:Int),.slice a1 n1 k1,.slice a2 n2 k2,.slice a3 n3 k3,.slice a4 n4 k4] W l')=>(ctype_any t ht W (HW.out W l' h).2).mono (R':=fun e w'=>e=.returned (.string (tyW t))/\Hid (PlS w0 w b #[.slice oa on oc,.int .u16 (t:Int),.int .u16 (cl:Int),.int .u32 (tt:Int),.slice a1 n1 k1,.slice a2 n2 k2,.slice a3 n3 k3,.slice a4 n4 k4] w' l')) fun e w' q=>⟨q.1,h.go q.2.out⟩)
 have htx:=text_jn (t:=t) (d:=d) hc
 have hcat1:catP [o,⟨#[32]⟩,tlT tt,⟨#[32]⟩]=o.data.toList++32::((tlT tt).data.toList++[32]):=by simp[catP]
 have hcat2:catP [clT cl,⟨#[32]⟩]=(clT cl).data.toList++[32]:=by simp[catP]
 have hcat3:catP [tyW t,⟨#[32]⟩,textR t d,⟨#[10]⟩]=tailP ⟨ow,t,cl,tt,d⟩:=by unfold tailP;simp[catP,htx]
 have htt':IntKind.u64.wrap (tt:Int)=(tt:Int):=by have:tt<4294967296:=htt;rw[IntKind.wrap_u64];omega
 have c3:(w.alloc (.cells #[.slice oa on oc,.int .u16 (t:Int),.int .u16 (cl:Int),.int .u32 (tt:Int),.slice a1 n1 k1,.slice a2 n2 k2,.slice a3 n3 k3,.slice a4 n4 k4] 43)).cell? ⟨w.heap.size,3,none⟩=some (.int .u32 (tt:Int)):=bx_cell hbx rfl
 have l0:=lt_block hbx
 show Calls Tryz.prog 41 #[.pointer (some ⟨b,0,none⟩),.string o,.agg #[.slice oa on oc,.int .u16 (t:Int),.int .u16 (cl:Int),.int .u32 (tt:Int),.slice a1 n1 k1,.slice a2 n2 k2,.slice a3 n3 k3,.slice a4 n4 k4],.bool cls] w _
 cases cls with
 |true=>
  have hlen:l.length+((catP [o,⟨#[32]⟩,tlT tt,⟨#[32]⟩]).length+((catP [clT cl,⟨#[32]⟩]).length+(catP [tyW t,⟨#[32]⟩,textR t d,⟨#[10]⟩]).length))<=140737488355328:=by
   rw[hcat1,hcat2,hcat3];unfold midP at hz;rw[if_pos rfl] at hz;simp only[List.length_append,List.length_cons,List.length_nil] at hz ⊢;omega
  have HE:Hid (l++midP o true ⟨ow,t,cl,tt,d⟩=l++catP [o,⟨#[32]⟩,tlT tt,⟨#[32]⟩]++catP [clT cl,⟨#[32]⟩]++catP [tyW t,⟨#[32]⟩,textR t d,⟨#[10]⟩]):=by
   show _=_
   rw[hcat1,hcat2,hcat3];unfold midP;rw[if_pos rfl];simp
  have KP1:=Lib.hid (fun W (h:PlS w0 w b #[.slice oa on oc,.int .u16 (t:Int),.int .u16 (cl:Int),.int .u32 (tt:Int),.slice a1 n1 k1,.slice a2 n2 k2,.slice a3 n3 k3,.slice a4 n4 k4] W l)=>h.puts (n:=4) hb hne [o,⟨#[32]⟩,tlT tt,⟨#[32]⟩] rfl (by omega) (by omega))
  have KP2:=Lib.hid (fun W (h:PlS w0 w b #[.slice oa on oc,.int .u16 (t:Int),.int .u16 (cl:Int),.int .u32 (tt:Int),.slice a1 n1 k1,.slice a2 n2 k2,.slice a3 n3 k3,.slice a4 n4 k4] W (l++catP [o,⟨#[32]⟩,tlT tt,⟨#[32]⟩]))=>h.puts (n:=2) hb hne [clT cl,⟨#[32]⟩] rfl (by omega) (by rw[List.length_append];omega))
  have KP3:=Lib.hid (fun W (h:PlS w0 w b #[.slice oa on oc,.int .u16 (t:Int),.int .u16 (cl:Int),.int .u32 (tt:Int),.slice a1 n1 k1,.slice a2 n2 k2,.slice a3 n3 k3,.slice a4 n4 k4] W (l++catP [o,⟨#[32]⟩,tlT tt,⟨#[32]⟩]++catP [clT cl,⟨#[32]⟩]))=>h.puts (n:=4) hb hne [tyW t,⟨#[32]⟩,textR t d,⟨#[10]⟩] rfl (by omega) (by rw[List.length_append,List.length_append];omega))
  simp only[tv,List.map_cons,List.map_nil] at KP1 KP2 KP3
  generalize catP [o,⟨#[32]⟩,tlT tt,⟨#[32]⟩]=q1 at*
  generalize catP [clT cl,⟨#[32]⟩]=q2 at*
  generalize catP [tyW t,⟨#[32]⟩,textR t d,⟨#[10]⟩]=q3 at*
  generalize midP o true ⟨ow,t,cl,tt,d⟩=q at*
  generalize tlT tt=TL at*
  generalize clT cl=CL at*
  generalize tyW t=TY at*
  generalize textR t d=TX at*
  clear hcat1 hcat2 hcat3 htx hlen hz hx hL HW hg hbx hc hD
  go_enter Tryz.func41,Tryz.ntmps41
  go_wp2_with fail
  refine (KF.out _ H0.out).mono ?_
  rintro e w2 ⟨rfl,H2⟩
  clear c3 l0
  go_wp2_with fail
  refine (KP1.out _ H2.out).mono ?_
  rintro e w3 ⟨rfl,H3⟩
  obtain ⟨d0,d1,d2,d3,d4,d5,d6,d7,l3⟩:=H3.out.cells
  go_wp2_with fail
  refine (KC.out _ H3.out).mono ?_
  rintro e w4 ⟨rfl,H4⟩
  clear d0 d1 d2 d3 d4 d5 d6 d7 l3
  go_wp2_with fail
  refine (KP2.out _ H4.out).mono ?_
  rintro e w5 ⟨rfl,H5⟩
  obtain ⟨d0,d1,d2,d3,d4,d5,d6,d7,l3⟩:=H5.out.cells
  go_wp2_with fail
  refine (KT.out _ _ H5.out).mono ?_
  rintro e w6 ⟨rfl,H6⟩
  clear d0 d1 d2 d3 d4 d5 d6 d7 l3
  obtain ⟨d0,d1,d2,d3,d4,d5,d6,d7,l3⟩:=H6.out.cells
  go_wp2_with fail
  refine (KY.out _ _ H6.out).mono ?_
  rintro e w7 ⟨rfl,H7⟩
  clear d0 d1 d2 d3 d4 d5 d6 d7 l3
  go_wp2_with fail
  refine (KP3.out _ H7.out).mono ?_
  rintro e w8 ⟨rfl,H8⟩
  go_wp2_with fail
  go_end0
  refine ⟨rfl,?_⟩
  have h8:=H8.out
  rw[<- HE.out] at h8
  exact ⟨h8.g,h8.lo,h8.of⟩
 |false=>
  have hlen:l.length+((catP [o,⟨#[32]⟩,tlT tt,⟨#[32]⟩]).length+(catP [tyW t,⟨#[32]⟩,textR t d,⟨#[10]⟩]).length)<=140737488355328:=by
   rw[hcat1,hcat3];unfold midP at hz;rw[if_neg (by decide)] at hz;simp only[List.length_append,List.length_cons,List.length_nil] at hz ⊢;omega
  have HE:Hid (l++midP o false ⟨ow,t,cl,tt,d⟩=l++catP [o,⟨#[32]⟩,tlT tt,⟨#[32]⟩]++catP [tyW t,⟨#[32]⟩,textR t d,⟨#[10]⟩]):=by
   show _=_
   rw[hcat1,hcat3];unfold midP;rw[if_neg (by decide)];simp
  have KP1:=Lib.hid (fun W (h:PlS w0 w b #[.slice oa on oc,.int .u16 (t:Int),.int .u16 (cl:Int),.int .u32 (tt:Int),.slice a1 n1 k1,.slice a2 n2 k2,.slice a3 n3 k3,.slice a4 n4 k4] W l)=>h.puts (n:=4) hb hne [o,⟨#[32]⟩,tlT tt,⟨#[32]⟩] rfl (by omega) (by omega))
  have KP3:=Lib.hid (fun W (h:PlS w0 w b #[.slice oa on oc,.int .u16 (t:Int),.int .u16 (cl:Int),.int .u32 (tt:Int),.slice a1 n1 k1,.slice a2 n2 k2,.slice a3 n3 k3,.slice a4 n4 k4] W (l++catP [o,⟨#[32]⟩,tlT tt,⟨#[32]⟩]))=>h.puts (n:=4) hb hne [tyW t,⟨#[32]⟩,textR t d,⟨#[10]⟩] rfl (by omega) (by rw[List.length_append];omega))
  simp only[tv,List.map_cons,List.map_nil] at KP1 KP3
  generalize catP [o,⟨#[32]⟩,tlT tt,⟨#[32]⟩]=q1 at*
  generalize catP [tyW t,⟨#[32]⟩,textR t d,⟨#[10]⟩]=q3 at*
  generalize midP o false ⟨ow,t,cl,tt,d⟩=q at*
  generalize tlT tt=TL at*
  generalize clT cl=CL at*
  generalize tyW t=TY at*
  generalize textR t d=TX at*
  clear hcat1 hcat2 hcat3 htx hlen hz hx hL HW hg hbx hc hD KC
  go_enter Tryz.func41,Tryz.ntmps41
  go_wp2_with fail
  refine (KF.out _ H0.out).mono ?_
  rintro e w2 ⟨rfl,H2⟩
  clear c3 l0
  go_wp2_with fail
  refine (KP1.out _ H2.out).mono ?_
  rintro e w3 ⟨rfl,H3⟩
  obtain ⟨d0,d1,d2,d3,d4,d5,d6,d7,l3⟩:=H3.out.cells
  go_wp2_with fail
  refine (KT.out _ _ H3.out).mono ?_
  rintro e w6 ⟨rfl,H6⟩
  clear d0 d1 d2 d3 d4 d5 d6 d7 l3
  obtain ⟨d0,d1,d2,d3,d4,d5,d6,d7,l3⟩:=H6.out.cells
  go_wp2_with fail
  refine (KY.out _ _ H6.out).mono ?_
  rintro e w7 ⟨rfl,H7⟩
  clear d0 d1 d2 d3 d4 d5 d6 d7 l3
  go_wp2_with fail
  refine (KP3.out _ H7.out).mono ?_
  rintro e w8 ⟨rfl,H8⟩
  go_wp2_with fail
  go_end0
  refine ⟨rfl,?_⟩
  have h8:=H8.out
  rw[<- HE.out] at h8
  exact ⟨h8.g,h8.lo,h8.of⟩
theorem tl_ne{s t:ByteArray}(h:s≠t):(s.toList == t.toList)=false:=by
 rw[beq_eq_false_iff_ne]
 intro e
 rw[ba_toList,ba_toList] at e
 apply h
 cases s;cases t
 congr 1
 exact Array.toList_inj.1 e
theorem eq75_any(a b:Option Addr)(n m c d:Nat)(ss ts:List ByteArray)(w:World)(hr:RdT w a ss)(hr':RdT w b ts)(hl:ss.length=n)(hl':ts.length=m)(hn:n<=9223372036854775807)(hm:m<=9223372036854775807) :
  Calls Tryz.prog 75 #[.slice a n c,.slice b m d] w fun e w'=>e=.returned (.bool (decide (ss=ts)))/\Hid (Below w.heap.size w w'):=by
 by_cases hq:n=m
 ·subst hq
  have HR:Hid (RdT w a ss/\RdT w b ts):=⟨hr,hr'⟩
  have HL:Hid (ss.length=n/\ts.length=n):=⟨hl,hl'⟩
  obtain ⟨D,hD⟩:∃D,decide (ss=ts)=D:=⟨_,rfl⟩
  have HD:Hid (decide (ss=ts)=D):=hD
  rw[hD]
  clear hr hr' hl hl' hD
  go_enter Tryz.func75,Tryz.ntmps75
  go_wp2_with fail
  go_loopw [13] (fun x wr=>∃k:Nat,k<=n/\x=.int .i64 k/\Hid (Below w.heap.size w wr)/\Hid (ss.take k=ts.take k)) (fun x _=>n - (intOf x).toNat)
  case atStart=>exact ⟨0,Nat.zero_le _,rfl,Below.refl _ _,(by show _=_;simp)⟩
  case round=>
   obtain ⟨k,hk,rfl,HB,HT⟩:=hrel
   by_cases hlt:k<n
   ·have hlt':(k:Int)<(n:Int):=by omega
    have hks:k<ss.length:=by rw[HL.out.1];exact hlt
    have hkt:k<ts.length:=by rw[HL.out.2];exact hlt
    obtain ⟨b1,o1,rfl,l1,c1⟩:=(HR.out.1.below HB.out).at k hks
    obtain ⟨b2,o2,rfl,l2,c2⟩:=(HR.out.2.below HB.out).at k hkt
    by_cases hst:ss[k]=ts[k]
    ·have HT2:Hid (ss.take (k+1)=ts.take (k+1)):=by show _=_;rw[List.take_succ_eq_append_getElem hks,List.take_succ_eq_append_getElem hkt,HT.out,hst]
     rw[hst] at c1
     clear hst HT
     generalize ts[k]=s at*
     go_wp2_with fail
     go_quiet (fail)
     have HB2:Hid (Below w.heap.size w (wr.drewN nq)):=HB.out.trans ⟨rfl,rfl,rfl,Nat.le_refl _,fun _ _=>rfl⟩
     clear c1 c2
     generalize wr.drewN nq=W2 at*
     go_wp2
     exact ⟨⟨k+1,by omega,by go_num,HB2,HT2⟩,by simp[intOf];omega⟩
    ·have hqb:=tl_ne hst
     have HF:Hid (D=false):=by
      show _=_
      rw[<- HD.out]
      simp only[decide_eq_false_iff_not]
      intro e
      subst e
      exact hst rfl
     clear hst HT
     generalize ss[k]=s at*
     generalize ts[k]=t at*
     go_wp2_with fail
     go_quiet (fail)
     have HB2:Hid (Below w.heap.size w (wr.drewN nq)):=HB.out.trans ⟨rfl,rfl,rfl,Nat.le_refl _,fun _ _=>rfl⟩
     clear c1 c2
     generalize wr.drewN nq=W2 at*
     go_wp2_with fail
     go_ret
     exact ⟨by rw[HF.out];rfl,HB2.out⟩
   ·have hge:¬ (k:Int)<(n:Int):=by omega
    have HF:Hid (D=true):=by
     show _=_
     rw[<- HD.out]
     have h:=HT.out
     rw[List.take_of_length_le (by rw[HL.out.1];omega),List.take_of_length_le (by rw[HL.out.2];omega)] at h
     simp[h]
    go_wp2_with fail
    go_ret
    exact ⟨by rw[HF.out];rfl,HB.out⟩
 ·have hq':((n:Int) != (m:Int))=true:=by simp;omega
  have hq2:¬ (n:Int)=(m:Int):=by omega
  have HF:Hid (decide (ss=ts)=false):=by
   show _=_
   simp only[decide_eq_false_iff_not]
   intro e
   exact hq (by rw[<- hl,<- hl',e])
  rw[HF.out]
  clear hr hr' hl hl'
  go_enter Tryz.func75,Tryz.ntmps75
  go_wp2_with fail
  go_ret
  exact ⟨rfl,Below.refl _ _⟩
end Go.Proofs.YtoppdmlmhigogaaGreatDoor
namespace Go.Proofs
open Go.Shelf
def Tryz.lays102_ren:Go.Shelf.Ren:=⟨fun|102=>76|209=>109|207=>146|n=>n,fun|9=>9|4=>4|3=>3|n=>n,fun|n=>n⟩
theorem Tryz.lays102:Go.Proofs.Lays.n102 Tryz.prog Tryz.lays102_ren:={
 mixed:=by kernel_rfl
 f102:=Tryz.func76.trans (congrArg some (by kernel_rfl))
 f207:=Tryz.func146.trans (congrArg some (by kernel_rfl))
 f209:=Tryz.func109.trans (congrArg some (by kernel_rfl))
 t3:=Tryz.underlying3
 a3:=Tryz.isAgg3
 z3:=Tryz.sizeOf3
 v3:=Tryz.zeroValue3
 t4:=Tryz.underlying4
 a4:=Tryz.isAgg4
 z4:=Tryz.sizeOf4
 v4:=Tryz.zeroValue4
 t9:=Tryz.underlying9
 a9:=Tryz.isAgg9
 z9:=Tryz.sizeOf9
 v9:=Tryz.zeroValue9 }
open Go.RowKit Go.Lib in
theorem Tryz.strings_TrimSuffix(s p:ByteArray)(w:World)(hs:s.size<=9223372036854775807) :
  Calls Tryz.prog 76 #[.string s,.string p] w fun e w'=>e=.returned (.string ⟨(Lib.trimSuffix s.data.toList p.data.toList).toArray⟩)/\w'=w:=Any.strings_TrimSuffix Tryz.lays102 s p w hs
end Go.Proofs
namespace Go.Proofs.YtoppdmlmhigogaaGreatDoor
open Go.ChangeShapes Go.WideShapes Go.ChangeAt Go.RowKit
theorem text42_any(a:Option Addr)(n c:Nat)(ss:List ByteArray)(w:World)(h:Nm w a n ss) :
  Calls Tryz.prog 42 #[.slice a n c] w fun e w'=>e=.returned (.string (ntext ss).1)/\Hid (Below w.heap.size w w'):=by
 have K:=Lib.hid (ptext_any a n c ss w h)
 generalize ntext ss=T at*
 clear h
 go_enter Tryz.func42,Tryz.ntmps42
 go_wp2_with fail
 refine K.out.mono ?_
 rintro e w1 ⟨rfl,H1⟩
 go_wp2_with fail
 go_ret
 exact ⟨rfl,H1.out⟩
theorem trim_rel{ss:List ByteArray}(h:nck ss=0)(h0:ss≠[]):(⟨(Lib.trimSuffix (ntext ss).1.data.toList (⟨#[46]⟩:ByteArray).data.toList).toArray⟩:ByteArray)=relT ss:=by
 have e:=text_rel ss h h0
 have e2:(ntext ss).1.data.toList=(relT ss).data.toList++[46]:=by rw[e];simp
 rw[e2]
 have e3:Lib.trimSuffix ((relT ss).data.toList++[46]) (⟨#[46]⟩:ByteArray).data.toList=(relT ss).data.toList:=by
  unfold Lib.trimSuffix Lib.hasSuffix
  simp
 rw[e3]
theorem nm_take{w:World}{a:Option Addr}{n:Nat}{ss:List ByteArray}(h:Nm w a n ss)(p:Nat)(hp:p<=n):Nm w a p (ss.take p):=by
 refine ⟨?_,by rw[List.length_take,h.len];omega,Nat.le_trans (by
  have e:=List.take_append_drop p ss
  have:nsz ss=nsz (ss.take p++ss.drop p):=by rw[e]
  rw[this]
  clear e this
  induction ss.take p with
  |nil=>simp only[List.nil_append];have:=nsz_len (ss.drop p);simp only[nsz];omega
  |cons x l ih=>simp only[List.cons_append,nsz];omega) h.sz⟩
 rcases h.rd with h1|⟨b,o,h1,h2,h3⟩
 ·left
  have:ss=[]:=by
   have:=congrArg List.length h1
   rw[tv_len] at this
   exact List.length_eq_zero_iff.1 this
  rw[this];simp[tv]
 ·refine .inr ⟨b,o,h1,h2,fun i hi=>?_⟩
  have hi2:i<(tv ss).length:=by rw[tv_len] at hi ⊢;rw[List.length_take] at hi;omega
  rw[h3 i hi2]
  simp[tv]
theorem short_root(a b:Option Addr)(n c d:Nat)(ss:List ByteArray)(w:World)(h:Nm w a n ss)(hk:nck ss=0)(hc:n<=c/\c<=9223372036854775807)(hna:a=none->c=0) :
  Calls Tryz.prog 39 #[.slice a n c,.slice b 0 d] w fun e w'=>e=.returned (.string (shF ss []))/\Hid (Below w.heap.size w w'):=by
 have KE:Hid (∀W a' c',Calls Tryz.prog 75 #[.slice a' 0 c',.slice b 0 d] W fun e w'=>e=.returned (.bool true)/\Hid (Below W.heap.size W w')):=fun W a' c'=>by
  have:=eq75_any a' b 0 0 c' d [] [] W (.inl rfl) (.inl rfl) rfl rfl (by omega) (by omega)
  simpa using this
 have HN:=Lib.hid h
 have hn:=h.n63
 have hl:=h.len
 by_cases h0:n=0
 ·subst h0
  have hs:ss=[]:=List.eq_nil_of_length_eq_zero hl
  subst hs
  have hR:shF [] []=⟨#[64]⟩:=by unfold shF;rw[if_pos rfl]
  rw[hR]
  clear hR hl
  have c0:(0:Int)<=(c:Int):=by omega
  cases a with
  |none=>
   have hc0:=hna rfl
   subst hc0
   go_enter Tryz.func39,Tryz.ntmps39
   go_wp2_with fail
   refine (KE.out _ _ _).mono ?_
   rintro e w1 ⟨rfl,H1⟩
   go_wp2_with fail
   go_ret
   exact ⟨rfl,H1.out⟩
  |some x=>
   by_cases hc0:c=0
   ·subst hc0
    go_enter Tryz.func39,Tryz.ntmps39
    go_wp2_with fail
    refine (KE.out _ _ _).mono ?_
    rintro e w1 ⟨rfl,H1⟩
    go_wp2_with fail
    go_ret
    exact ⟨rfl,H1.out⟩
   ·go_enter Tryz.func39,Tryz.ntmps39
    go_wp2_with fail
    refine (KE.out _ _ _).mono ?_
    rintro e w1 ⟨rfl,H1⟩
    go_wp2_with fail
    go_ret
    exact ⟨rfl,H1.out⟩
 ·have hR:shF ss []=(ntext ss).1:=by
   unfold shF
   rw[if_neg (fun e=>h0 (by rw[<- hl,e];rfl)),if_pos (.inl rfl)]
  rw[hR]
  obtain ⟨x1,x2,rfl,_,_⟩:=h.rd.at 0 (by rw[hl];omega)
  have KT:=Lib.hid (fun W (hW:Below w.heap.size w W)=>text42_any (some ⟨x1,x2,none⟩) n c ss W ⟨h.rd.below hW,h.len,h.sz⟩)
  generalize ntext ss=T at*
  have i0:(n:Int) - 0=(n:Int):=by omega
  have i1:¬ (n:Int)<0:=by omega
  have i2:((n:Int) == 0)=false:=by simp;omega
  have i3:(n:Int)<=(c:Int):=by omega
  have i4:n - n=0:=by omega
  clear hR h HN hk hna
  by_cases hcn:c=n
  ·subst hcn
   go_enter Tryz.func39,Tryz.ntmps39
   go_wp2_with fail
   refine (KE.out _ _ _).mono ?_
   rintro e w1 ⟨rfl,H1⟩
   go_wp2_with fail
   refine (KT.out _ H1.out).mono ?_
   rintro e w2 ⟨rfl,H2⟩
   go_wp2_with fail
   go_ret
   exact ⟨rfl,H1.out.trans (H2.out.mono H1.out.size)⟩
  ·go_enter Tryz.func39,Tryz.ntmps39
   go_wp2_with fail
   refine (KE.out _ _ _).mono ?_
   rintro e w1 ⟨rfl,H1⟩
   go_wp2_with fail
   refine (KT.out _ H1.out).mono ?_
   rintro e w2 ⟨rfl,H2⟩
   go_wp2_with fail
   go_ret
   exact ⟨rfl,H1.out.trans (H2.out.mono H1.out.size)⟩
theorem short39_any(a b:Option Addr)(n m c d:Nat)(ss og:List ByteArray)(w:World)(h:Nm w a n ss)(h':Nm w b m og)(hk:nck ss=0)(hg:nck og=0)(hc:n<=c/\c<=9223372036854775807)(hna:a=none->c=0) :
  Calls Tryz.prog 39 #[.slice a n c,.slice b m d] w fun e w'=>e=.returned (.string (shF ss og))/\Hid (Below w.heap.size w w'):=by
 have hl:=h.len
 have hl':=h'.len
 by_cases hm0:m=0
 ·subst hm0
  have ho:og=[]:=List.eq_nil_of_length_eq_zero hl'
  subst ho
  exact short_root a b n c d ss w h hk hc hna
 have hn:=h.n63
 have hm:=h'.n63
 have hog:og≠[]:=fun e=>hm0 (by rw[<- hl',e];rfl)
 have KT:=Lib.hid (fun W (hW:Below w.heap.size w W)=>text42_any a n c ss W ⟨h.rd.below hW,h.len,h.sz⟩)
 by_cases hlt:n<m
 ·have hR:shF ss og=(ntext ss).1:=by
   unfold shF
   rw[if_neg (fun e=>by rw[e,hl'] at hl;omega),if_pos (.inr (.inl (by omega)))]
  rw[hR]
  have i1:(n:Int) - (m:Int)<0:=by omega
  have i2:-9223372036854775808<=(n:Int) - (m:Int):=by omega
  clear h h' hR
  generalize ntext ss=T at*
  go_enter Tryz.func39,Tryz.ntmps39
  go_wp2_with fail
  refine (KT.out _ (Below.refl _ _)).mono ?_
  rintro e w2 ⟨rfl,H2⟩
  go_wp2_with fail
  go_ret
  exact ⟨rfl,H2.out⟩
 obtain ⟨p,hp⟩:∃p,n - m=p:=⟨_,rfl⟩
 obtain ⟨x1,x2,rfl,_,_⟩:=h.rd.at 0 (by rw[hl];omega)
 have hcut:Nm w (some ⟨x1,x2+p,none⟩) (n - p) (ss.drop p):=h.cut p (fun _ b' o' e=>by cases e;rfl)
 have KE:=Lib.hid (eq75_any (some ⟨x1,x2+p,none⟩) b (n - p) m (c - p) d (ss.drop p) og w hcut.rd h'.rd hcut.len hl' (by omega) (by omega))
 have i1:(n:Int) - (m:Int)=(p:Int):=by omega
 have i2:¬ (p:Int)<0:=by omega
 have i3:(p:Int)<=(n:Int):=by omega
 have i4:(p:Int)<=(c:Int):=by omega
 have i5:¬ c=p:=by omega
 have i6:((m:Int) == 0)=false:=by simp;omega
 by_cases he:ss.drop p=og
 ·rw[show decide (ss.drop p=og)=true from decide_eq_true he] at KE
  by_cases hp0:p=0
  ·have hR:shF ss og=⟨#[64]⟩:=by
    unfold shF
    rw[if_pos (by rw[hp0] at he;simpa using he)]
   rw[hR]
   subst hp0
   clear h h' hR KT hcut he
   go_enter Tryz.func39,Tryz.ntmps39
   go_wp2_with fail
   refine KE.out.mono ?_
   rintro e w1 ⟨rfl,H1⟩
   go_wp2_with fail
   go_ret
   exact ⟨rfl,H1.out⟩
  ·have hR:shF ss og=relT (ss.take p):=by
    unfold shF
    rw[if_neg (fun e=>hp0 (by rw[e,hl'] at hl;omega)),if_neg (by
     simp only[not_or,Classical.not_not]
     rw[hl,hl',hp]
     exact ⟨hog,by omega,he⟩),hl,hl',hp]
   rw[hR]
   have ht0:ss.take p≠[]:=by
    intro e
    have:=congrArg List.length e
    rw[List.length_take,hl,List.length_nil] at this
    omega
   have i7:((p:Int) == 0)=false:=by simp;omega
   have KX:=Lib.hid (fun W (hW:Below w.heap.size w W)=>text42_any (some ⟨x1,x2,none⟩) p c (ss.take p) W (by
    have:=nm_take h p (by omega)
    exact ⟨this.rd.below hW,this.len,this.sz⟩))
   have KS:=Lib.hid (fun W=>Tryz.strings_TrimSuffix (ntext (ss.take p)).1 ⟨#[46]⟩ W (by
    have:=text_size (nck_take ss p hk)
    omega))
   rw[trim_rel (nck_take ss p hk) ht0] at KS
   generalize relT (ss.take p)=R at*
   generalize ntext (ss.take p)=T at*
   clear h h' hR KT hcut he ht0 hog
   go_enter Tryz.func39,Tryz.ntmps39
   go_wp2_with fail
   refine KE.out.mono ?_
   rintro e w1 ⟨rfl,H1⟩
   go_wp2_with fail
   refine (KX.out _ H1.out).mono ?_
   rintro e w2 ⟨rfl,H2⟩
   have HB:=Lib.hid (H1.out.trans (H2.out.mono H1.out.size))
   go_wp2_with fail
   refine (KS.out _).mono ?_
   rintro e w3 ⟨rfl,rfl⟩
   go_wp2_with fail
   go_ret
   exact ⟨rfl,HB.out⟩
 ·rw[show decide (ss.drop p=og)=false from decide_eq_false he] at KE
  have hR:shF ss og=(ntext ss).1:=by
   unfold shF
   rw[if_neg (fun e=>he (by
    have:p=0:=by rw[e,hl'] at hl;omega
    rw[this,e];rfl)),if_pos (.inr (.inr (by rw[hl,hl',hp];exact he)))]
  rw[hR]
  clear h h' hR hcut he
  generalize ntext ss=T at*
  go_enter Tryz.func39,Tryz.ntmps39
  go_wp2_with fail
  refine KE.out.mono ?_
  rintro e w1 ⟨rfl,H1⟩
  go_wp2_with fail
  refine (KT.out _ H1.out).mono ?_
  rintro e w2 ⟨rfl,H2⟩
  go_wp2_with fail
  go_ret
  exact ⟨rfl,H1.out.trans (H2.out.mono H1.out.size)⟩
def shortF(n og:List ByteArray):ByteArray × Int:=if nck n≠0 then (⟨#[]⟩,nck n) else if nck og≠0 then (⟨#[]⟩,nck og) else (shF n og,0)
theorem short11_any(x y:Sl)(n og:List ByteArray)(w:World)(h:TRd w x n)(h':TRd w y og)(hx:x.n<=1000)(hy:y.n<=1000) :
  Calls Tryz.prog 11 #[.slice x.a x.n x.c,.slice y.a y.n y.c] w fun e w'=>e=.returned (.tuple #[.string (shortF n og).1,.int .i64 (shortF n og).2])/\Hid (Below w.heap.size w w'):=by
 obtain ⟨a,k,c⟩:=x
 obtain ⟨b,m,d⟩:=y
 have hw1:Nw w a k n:=⟨h.rd,h.len,hx,h.z63⟩
 have hw2:Nw w b m og:=⟨h'.rd,h'.len,hy,h'.z63⟩
 have K1:=Lib.hid (wcheck c hw1)
 have K2:=Lib.hid (wcheck d hw2)
 have hcap:=h.cap
 have hnil:=h.nil
 simp only at hcap hnil hx hy ⊢
 by_cases hk:nck n=0
 ·rw[hk] at K1
  by_cases hg:nck og=0
  ·rw[hg] at K2
   have hR:shortF n og=(shF n og,0):=by unfold shortF;rw[if_neg (fun e=>e hk),if_neg (fun e=>e hg)]
   rw[hR]
   have KS:=Lib.hid (short39_any a b k m c d n og w (hw1.nm hk) (hw2.nm hg) hk hg hcap hnil)
   generalize shF n og=R at*
   clear h h' hw1 hw2 hR hk hg
   go_enter Tryz.func11,Tryz.ntmps11
   go_wp2_with fail
   refine K1.out.mono ?_
   rintro e w1 ⟨rfl,rfl⟩
   go_wp2_with fail
   refine K2.out.mono ?_
   rintro e w1 ⟨rfl,rfl⟩
   go_wp2_with fail
   refine KS.out.mono ?_
   rintro e w2 ⟨rfl,H2⟩
   go_wp2_with fail
   go_ret2
   exact ⟨rfl,H2.out⟩
  ·have hR:shortF n og=(⟨#[]⟩,nck og):=by unfold shortF;rw[if_neg (fun e=>e hk),if_pos hg]
   rw[hR]
   generalize nck og=q at*
   have hq:(q != 0)=true:=bne_iff_ne.2 hg
   clear h h' hw1 hw2 hR hk hg
   go_enter Tryz.func11,Tryz.ntmps11
   go_wp2_with fail
   refine K1.out.mono ?_
   rintro e w1 ⟨rfl,rfl⟩
   go_wp2_with fail
   refine K2.out.mono ?_
   rintro e w1 ⟨rfl,rfl⟩
   go_wp2_with fail
   go_ret2
   exact ⟨rfl,Below.refl _ _⟩
 ·have hR:shortF n og=(⟨#[]⟩,nck n):=by unfold shortF;rw[if_pos hk]
  rw[hR]
  generalize nck n=q at*
  have hq:(q != 0)=true:=bne_iff_ne.2 hk
  clear h h' hw1 hw2 hR hk K2
  go_enter Tryz.func11,Tryz.ntmps11
  go_wp2_with fail
  refine K1.out.mono ?_
  rintro e w1 ⟨rfl,rfl⟩
  go_wp2_with fail
  go_ret2
  exact ⟨rfl,Below.refl _ _⟩
theorem wrong_ok{r:Rec}(h:wrongF r=0):nck r.ow=0/\checkF r.t r.d=0/\r.tt<=2147483647:=by
 unfold wrongF at h
 split at h
 ·rename_i h1;exact absurd h h1
 ·rename_i h1
  split at h
  ·cases h
  ·split at h
   ·rename_i h3;exact absurd h h3
   ·rename_i h3
    split at h
    ·cases h
    ·rename_i h4
     exact ⟨Classical.not_not.1 h1,Classical.not_not.1 h3,by omega⟩
theorem bb_new(w:World):G2 w.heap.size (w.alloc (.cells #[.pointer none,.slice none 0 0] 65)) w.heap.size (Lib.byteCells []):=.inl ⟨heap_alloc_new _ _,rfl⟩
theorem put8{w:World}{g:Nat}{v0 v1 v2 v3 v4 v5 v6 v7:Value}{t:TypeId}(h:w.heap[g]?=some (.cells #[v0,v1,v2,v3,v4,v5,v6,v7] t))(x0 x1 x2 x3 x4 x5 x6 x7:Value):((((((((w.setCell ⟨g,0,none⟩ x0).setCell ⟨g,1,none⟩ x1).setCell ⟨g,2,none⟩ x2).setCell ⟨g,3,none⟩ x3).setCell ⟨g,4,none⟩ x4).setCell ⟨g,5,none⟩ x5).setCell ⟨g,6,none⟩ x6).setCell ⟨g,7,none⟩ x7).heap[g]?=some (.cells #[x0,x1,x2,x3,x4,x5,x6,x7] t):=by
 have h0:(w.setCell ⟨g,0,none⟩ x0).heap[g]?=some (.cells #[x0,v1,v2,v3,v4,v5,v6,v7] t):=heap_set h 0 x0
 have h1:((w.setCell ⟨g,0,none⟩ x0).setCell ⟨g,1,none⟩ x1).heap[g]?=some (.cells #[x0,x1,v2,v3,v4,v5,v6,v7] t):=heap_set h0 1 x1
 have h2:(((w.setCell ⟨g,0,none⟩ x0).setCell ⟨g,1,none⟩ x1).setCell ⟨g,2,none⟩ x2).heap[g]?=some (.cells #[x0,x1,x2,v3,v4,v5,v6,v7] t):=heap_set h1 2 x2
 have h3:((((w.setCell ⟨g,0,none⟩ x0).setCell ⟨g,1,none⟩ x1).setCell ⟨g,2,none⟩ x2).setCell ⟨g,3,none⟩ x3).heap[g]?=some (.cells #[x0,x1,x2,x3,v4,v5,v6,v7] t):=heap_set h2 3 x3
 have h4:(((((w.setCell ⟨g,0,none⟩ x0).setCell ⟨g,1,none⟩ x1).setCell ⟨g,2,none⟩ x2).setCell ⟨g,3,none⟩ x3).setCell ⟨g,4,none⟩ x4).heap[g]?=some (.cells #[x0,x1,x2,x3,x4,v5,v6,v7] t):=heap_set h3 4 x4
 have h5:((((((w.setCell ⟨g,0,none⟩ x0).setCell ⟨g,1,none⟩ x1).setCell ⟨g,2,none⟩ x2).setCell ⟨g,3,none⟩ x3).setCell ⟨g,4,none⟩ x4).setCell ⟨g,5,none⟩ x5).heap[g]?=some (.cells #[x0,x1,x2,x3,x4,x5,v6,v7] t):=heap_set h4 5 x5
 have h6:(((((((w.setCell ⟨g,0,none⟩ x0).setCell ⟨g,1,none⟩ x1).setCell ⟨g,2,none⟩ x2).setCell ⟨g,3,none⟩ x3).setCell ⟨g,4,none⟩ x4).setCell ⟨g,5,none⟩ x5).setCell ⟨g,6,none⟩ x6).heap[g]?=some (.cells #[x0,x1,x2,x3,x4,x5,x6,v7] t):=heap_set h5 6 x6
 exact heap_set h6 7 x7
theorem put8_other(w:World)(g:Nat)(x0 x1 x2 x3 x4 x5 x6 x7:Value)(j:Nat)(h:j≠g):((((((((w.setCell ⟨g,0,none⟩ x0).setCell ⟨g,1,none⟩ x1).setCell ⟨g,2,none⟩ x2).setCell ⟨g,3,none⟩ x3).setCell ⟨g,4,none⟩ x4).setCell ⟨g,5,none⟩ x5).setCell ⟨g,6,none⟩ x6).setCell ⟨g,7,none⟩ x7).heap[j]?=w.heap[j]?:=by
 rw[Below.heap_setCell _ _ _ _ h,Below.heap_setCell _ _ _ _ h,Below.heap_setCell _ _ _ _ h,Below.heap_setCell _ _ _ _ h,Below.heap_setCell _ _ _ _ h,Below.heap_setCell _ _ _ _ h,Below.heap_setCell _ _ _ _ h,Below.heap_setCell _ _ _ _ h]
theorem put8_size(w:World)(g:Nat)(x0 x1 x2 x3 x4 x5 x6 x7:Value):((((((((w.setCell ⟨g,0,none⟩ x0).setCell ⟨g,1,none⟩ x1).setCell ⟨g,2,none⟩ x2).setCell ⟨g,3,none⟩ x3).setCell ⟨g,4,none⟩ x4).setCell ⟨g,5,none⟩ x5).setCell ⟨g,6,none⟩ x6).setCell ⟨g,7,none⟩ x7).heap.size=w.heap.size:=by simp[World.setCell]
theorem sc_os(w:World)(p:Addr)(v:Value):(w.setCell p v).os=w.os:=rfl
theorem sc_tape(w:World)(p:Addr)(v:Value):(w.setCell p v).tape=w.tape:=rfl
theorem sc_out(w:World)(p:Addr)(v:Value):(w.setCell p v).output=w.output:=rfl
theorem put8_os(w:World)(g:Nat)(x0 x1 x2 x3 x4 x5 x6 x7:Value):((((((((w.setCell ⟨g,0,none⟩ x0).setCell ⟨g,1,none⟩ x1).setCell ⟨g,2,none⟩ x2).setCell ⟨g,3,none⟩ x3).setCell ⟨g,4,none⟩ x4).setCell ⟨g,5,none⟩ x5).setCell ⟨g,6,none⟩ x6).setCell ⟨g,7,none⟩ x7).os=w.os/\((((((((w.setCell ⟨g,0,none⟩ x0).setCell ⟨g,1,none⟩ x1).setCell ⟨g,2,none⟩ x2).setCell ⟨g,3,none⟩ x3).setCell ⟨g,4,none⟩ x4).setCell ⟨g,5,none⟩ x5).setCell ⟨g,6,none⟩ x6).setCell ⟨g,7,none⟩ x7).tape=w.tape/\((((((((w.setCell ⟨g,0,none⟩ x0).setCell ⟨g,1,none⟩ x1).setCell ⟨g,2,none⟩ x2).setCell ⟨g,3,none⟩ x3).setCell ⟨g,4,none⟩ x4).setCell ⟨g,5,none⟩ x5).setCell ⟨g,6,none⟩ x6).setCell ⟨g,7,none⟩ x7).output=w.output:=by
 simp only[sc_os,sc_tape,sc_out,and_self]
structure Fr2(p q:Nat)(w w':World):Prop where
 os:w'.os=w.os
 tape:w'.tape=w.tape
 output:w'.output=w.output
 size:w.heap.size<=w'.heap.size
 block:∀k,k<w.heap.size->k≠p->k≠q->w'.heap[k]?=w.heap[k]?
theorem Fr2.below{p q B:Nat}{w w':World}(h:Fr2 p q w w')(hp:B<=p)(hq:B<=q)(hB:B<=w.heap.size):Below B w w':=⟨h.os,h.tape,h.output,h.size,fun k hk=>h.block k (by omega) (by omega) (by omega)⟩
theorem row_same5{B e k n:Nat}{v:Value}{xs:List Value}{w w':World}(h:w.ownsRow B e k v n xs)(hb:∀g,v.ownBlock=some g->w'.heap[g]?=w.heap[g]?):w'.ownsRow B e k v n xs:=by
 refine ⟨h.1,?_⟩
 rcases h.2 with hn|⟨g,cap,cur,rfl,h1,h2,rest⟩
 ·exact .inl hn
 ·exact .inr ⟨g,cap,cur,rfl,h1,by rw[hb g rfl];exact h2,rest⟩
theorem row_kind5{B e k n:Nat}{v:Value}{xs:List Value}{w:World}(h:w.ownsRow B e k v n xs)(g:Nat)(hg:v.ownBlock=some g):∃cur,w.heap[g]?=some (.cells cur e (0,0)):=by
 rcases h.2 with ⟨rfl,_⟩|⟨g',cap,cur,rfl,h1,h2,rest⟩
 ·simp[Value.ownBlock] at hg
 ·simp[Value.ownBlock] at hg;subst hg;exact ⟨cur,h2⟩
structure Rep(W:World)(p q:Nat)(f:Bool)(y:RA)(s:Rec):Prop where
 p:W.heap[p]?=some (.cells (recCells y s).toArray 43)
 q:W.heap[q]?=some (.cells #[.bool f] 4)
theorem Rep.ne{W:World}{p q:Nat}{f:Bool}{y:RA}{s:Rec}(h:Rep W p q f y s):p≠q:=by
 rintro rfl
 have h1:=h.p
 rw[h.q] at h1
 injection h1 with h1
 injection h1 with _ h1 _
 exact absurd h1 (by decide)
theorem Rep.go{W W':World}{p q:Nat}{f:Bool}{y:RA}{s:Rec}(h:Rep W p q f y s)(hb:Below W.heap.size W W'):Rep W' p q f y s:=⟨(hb.block _ (lt_block h.p)).trans h.p,(hb.block _ (lt_block h.q)).trans h.q⟩
theorem Rep.off{W W':World}{p q b:Nat}{f:Bool}{y:RA}{s:Rec}(h:Rep W p q f y s)(ho:OffB b W W')(hp:p≠b)(hq:q≠b):Rep W' p q f y s:=⟨ho _ _ _ _ h.p (by decide) hp,ho _ _ _ _ h.q (by decide) hq⟩
theorem G2.fr2{B b p q:Nat}{bs:List Value}{w w':World}{f:Bool}{y:RA}{s:Rec}(h:G2 B w b bs)(hr:Rep w p q f y s)(hf:Fr2 p q w w'):G2 B w' b bs:=by
 have hp:=hr.p
 have hq:=hr.q
 have hk:∀(k:Nat) (cs:Array Value) (t:TypeId),w.heap[k]?=some (.cells cs t (0,0))->t≠43->t≠4->w'.heap[k]?=w.heap[k]?:=fun k cs t e h1 h2=>hf.block k (lt_block e) (by
  rintro rfl;rw[hp] at e;injection e with e;injection e with _ e _;exact h1 e.symm) (by
  rintro rfl;rw[hq] at e;injection e with e;injection e with _ e _;exact h2 e.symm)
 rcases h with ⟨h,e⟩|⟨v,g1,g2,g3,g4⟩
 ·exact .inl ⟨h.same (hk _ _ _ h (by decide) (by decide)),e⟩
 ·refine .inr ⟨v,g1.same (hk _ _ _ g1 (by decide) (by decide)),row_same5 g2 (fun g hg=>?_),g3,g4⟩
  obtain ⟨cur,hc⟩:=row_kind5 g2 g hg
  exact hk _ _ _ hc (by decide) (by decide)
theorem fin_rep{w V V8:World}{p q:Nat}{f:Bool}{x y:RA}{r s:Rec}(e1:V8.heap[p]?=some (.cells (recCells x r).toArray 43))(e2:∀j,j≠p->V8.heap[j]?=V.heap[j]?)(e3:V8.heap.size=V.heap.size)(e5:V8.os=V.os)(e6:V8.tape=V.tape)(e7:V8.output=V.output)(hV:Below w.heap.size w V)(hR:Rep V p q f y s)(hne:p≠q) :
  Rep (V8.setCell ⟨q,0,none⟩ (.bool false)) p q false x r/\Fr2 p q w (V8.setCell ⟨q,0,none⟩ (.bool false)):=by
 have s9:(V8.setCell ⟨q,0,none⟩ (.bool false)).heap.size=V8.heap.size:=by simp[World.setCell]
 refine ⟨⟨(Below.heap_setCell V8 ⟨q,0,none⟩ (.bool false) p hne).trans e1,?_⟩,e5.trans hV.os,e6.trans hV.tape,e7.trans hV.output,?_,fun k hk h1 h2=>?_⟩
 ·have e4:=heap_set ((e2 q (Ne.symm hne)).trans hR.q) 0 (.bool false)
  simpa using e4
 ·rw[s9,e3]
  exact hV.size
 ·rw[Below.heap_setCell V8 ⟨q,0,none⟩ (.bool false) k h2,e2 k h1]
  exact hV.block k hk
def noA:RA:=⟨⟨none,0,0⟩,⟨⟨none,0,0⟩,⟨none,0,0⟩,⟨none,0,0⟩,⟨none,0,0⟩⟩⟩
def noR:Rec:=⟨[],0,1,0,⟨[],[],[],[]⟩⟩
theorem repeats65(w:World):Calls Tryz.prog 65 #[] w fun e w'=>e=.returned (.func (.func 104) #[] #[.pointer (some ⟨w.heap.size+1,0,none⟩),.pointer (some ⟨w.heap.size,0,none⟩)])/\Hid (Rep w' w.heap.size (w.heap.size+1) true noA noR/\Below w.heap.size w w'):=by
 have H:Hid (Rep ((w.alloc (.cells (recCells noA noR).toArray 43)).alloc (.cells #[.bool true] 4)) w.heap.size (w.heap.size+1) true noA noR/\Below w.heap.size w ((w.alloc (.cells (recCells noA noR).toArray 43)).alloc (.cells #[.bool true] 4))):=by
  have b1:=new_below w (.cells (recCells noA noR).toArray 43)
  have b2:=new_below (w.alloc (.cells (recCells noA noR).toArray 43)) (.cells #[.bool true] 4)
  refine ⟨⟨(b2.block _ (by simp)).trans (heap_alloc_new _ _),?_⟩,b1.trans (b2.mono b1.size)⟩
  have:=heap_alloc_new (w.alloc (.cells (recCells noA noR).toArray 43)) (.cells #[.bool true] 4)
  rw[World.size_alloc] at this
  exact this
 go_enter Tryz.func65,Tryz.ntmps65
 go_wp2_with fail
 go_ret
 exact ⟨rfl,H.out⟩
theorem rep104_any(p q:Nat)(f:Bool)(x y:RA)(r s:Rec)(w:World)(h:Rep w p q f y s)(hx:∀W,Below w.heap.size w W->RdT W x.o.a r.ow)(hxl:r.ow.length=x.o.n)(hxn:x.o.n<=1000)(hy:f=false->(∀W,Below w.heap.size w W->RdT W y.o.a s.ow)/\s.ow.length=y.o.n/\y.o.n<=1000) :
  Calls Tryz.prog 104 #[.agg (recCells x r).toArray,.pointer (some ⟨q,0,none⟩),.pointer (some ⟨p,0,none⟩)] w fun e w'=>e=.returned (.tuple #[.bool (!f && decide (r.ow=s.ow)),.bool (decide (r.cl=s.cl))])/\Hid (Rep w' p q false x r/\Fr2 p q w w'):=by
 have hne:=h.ne
 have KE:Hid (f=false->∀W,Below w.heap.size w W->Calls Tryz.prog 75 #[.slice x.o.a x.o.n x.o.c,.slice y.o.a y.o.n y.o.c] W fun e w'=>e=.returned (.bool (decide (r.ow=s.ow)))/\Hid (Below W.heap.size W w')):=fun hf W hW=>by
  obtain ⟨h1,h2,h3⟩:=hy hf
  exact eq75_any x.o.a y.o.a x.o.n y.o.n x.o.c y.o.c r.ow s.ow W (hx W hW) (h1 W hW) hxl h2 (by omega) (by omega)
 have hb0:=new_below w (.cells (recCells x r).toArray 43)
 have h0:=h.go hb0
 have h0x:(w.alloc (.cells (recCells x r).toArray 43)).heap[w.heap.size]?=some (.cells (recCells x r).toArray 43):=heap_alloc_new _ _
 have hpl:=lt_block h.p
 have hql:=lt_block h.q
 -- what the stores leave
 have HFIN:Hid (∀V,Below w.heap.size w V->Rep V p q f y s->Rep (((((((((V.setCell ⟨p,0,none⟩ (.slice x.o.a x.o.n x.o.c)).setCell ⟨p,1,none⟩ (.int .u16 (r.t:Int))).setCell ⟨p,2,none⟩ (.int .u16 (r.cl:Int))).setCell ⟨p,3,none⟩ (.int .u32 (r.tt:Int))).setCell ⟨p,4,none⟩ (.slice x.d.p1.a x.d.p1.n x.d.p1.c)).setCell ⟨p,5,none⟩ (.slice x.d.p2.a x.d.p2.n x.d.p2.c)).setCell ⟨p,6,none⟩ (.slice x.d.p3.a x.d.p3.n x.d.p3.c)).setCell ⟨p,7,none⟩ (.slice x.d.p4.a x.d.p4.n x.d.p4.c)).setCell ⟨q,0,none⟩ (.bool false)) p q false x r/\Fr2 p q w (((((((((V.setCell ⟨p,0,none⟩ (.slice x.o.a x.o.n x.o.c)).setCell ⟨p,1,none⟩ (.int .u16 (r.t:Int))).setCell ⟨p,2,none⟩ (.int .u16 (r.cl:Int))).setCell ⟨p,3,none⟩ (.int .u32 (r.tt:Int))).setCell ⟨p,4,none⟩ (.slice x.d.p1.a x.d.p1.n x.d.p1.c)).setCell ⟨p,5,none⟩ (.slice x.d.p2.a x.d.p2.n x.d.p2.c)).setCell ⟨p,6,none⟩ (.slice x.d.p3.a x.d.p3.n x.d.p3.c)).setCell ⟨p,7,none⟩ (.slice x.d.p4.a x.d.p4.n x.d.p4.c)).setCell ⟨q,0,none⟩ (.bool false))):=by
  intro V hV hR
  have e1:=put8 hR.p (.slice x.o.a x.o.n x.o.c) (.int .u16 (r.t:Int)) (.int .u16 (r.cl:Int)) (.int .u32 (r.tt:Int)) (.slice x.d.p1.a x.d.p1.n x.d.p1.c) (.slice x.d.p2.a x.d.p2.n x.d.p2.c) (.slice x.d.p3.a x.d.p3.n x.d.p3.c) (.slice x.d.p4.a x.d.p4.n x.d.p4.c)
  have e2:=fun j (hj:j≠p)=>put8_other V p (.slice x.o.a x.o.n x.o.c) (.int .u16 (r.t:Int)) (.int .u16 (r.cl:Int)) (.int .u32 (r.tt:Int)) (.slice x.d.p1.a x.d.p1.n x.d.p1.c) (.slice x.d.p2.a x.d.p2.n x.d.p2.c) (.slice x.d.p3.a x.d.p3.n x.d.p3.c) (.slice x.d.p4.a x.d.p4.n x.d.p4.c) j hj
  have e3:=put8_size V p (.slice x.o.a x.o.n x.o.c) (.int .u16 (r.t:Int)) (.int .u16 (r.cl:Int)) (.int .u32 (r.tt:Int)) (.slice x.d.p1.a x.d.p1.n x.d.p1.c) (.slice x.d.p2.a x.d.p2.n x.d.p2.c) (.slice x.d.p3.a x.d.p3.n x.d.p3.c) (.slice x.d.p4.a x.d.p4.n x.d.p4.c)
  have e4:=put8_os V p (.slice x.o.a x.o.n x.o.c) (.int .u16 (r.t:Int)) (.int .u16 (r.cl:Int)) (.int .u32 (r.tt:Int)) (.slice x.d.p1.a x.d.p1.n x.d.p1.c) (.slice x.d.p2.a x.d.p2.n x.d.p2.c) (.slice x.d.p3.a x.d.p3.n x.d.p3.c) (.slice x.d.p4.a x.d.p4.n x.d.p4.c)
  generalize ((((((((V.setCell ⟨p,0,none⟩ (.slice x.o.a x.o.n x.o.c)).setCell ⟨p,1,none⟩ (.int .u16 (r.t:Int))).setCell ⟨p,2,none⟩ (.int .u16 (r.cl:Int))).setCell ⟨p,3,none⟩ (.int .u32 (r.tt:Int))).setCell ⟨p,4,none⟩ (.slice x.d.p1.a x.d.p1.n x.d.p1.c)).setCell ⟨p,5,none⟩ (.slice x.d.p2.a x.d.p2.n x.d.p2.c)).setCell ⟨p,6,none⟩ (.slice x.d.p3.a x.d.p3.n x.d.p3.c)).setCell ⟨p,7,none⟩ (.slice x.d.p4.a x.d.p4.n x.d.p4.c))=V8 at*
  exact fin_rep e1 e2 e3 e4.1 e4.2.1 e4.2.2 hV hR hne
 obtain ⟨⟨oa,on,oc⟩,⟨⟨a1,n1,k1⟩,⟨a2,n2,k2⟩,⟨a3,n3,k3⟩,⟨a4,n4,k4⟩⟩⟩:=x
 obtain ⟨⟨oa2,on2,oc2⟩,⟨⟨b1,m1,h1⟩,⟨b2,m2,h2⟩,⟨b3,m3,h3⟩,⟨b4,m4,h4⟩⟩⟩:=y
 obtain ⟨ow,t,cl,tt,d⟩:=r
 obtain ⟨ow2,t2,cl2,tt2,d2⟩:=s
 have HB0:Hid (Below w.heap.size w (w.alloc (.cells #[.slice oa on oc,.int .u16 (t:Int),.int .u16 (cl:Int),.int .u32 (tt:Int),.slice a1 n1 k1,.slice a2 n2 k2,.slice a3 n3 k3,.slice a4 n4 k4] 43))):=hb0
 have H0:Hid (Rep (w.alloc (.cells #[.slice oa on oc,.int .u16 (t:Int),.int .u16 (cl:Int),.int .u32 (tt:Int),.slice a1 n1 k1,.slice a2 n2 k2,.slice a3 n3 k3,.slice a4 n4 k4] 43)) p q f ⟨⟨oa2,on2,oc2⟩,⟨⟨b1,m1,h1⟩,⟨b2,m2,h2⟩,⟨b3,m3,h3⟩,⟨b4,m4,h4⟩⟩⟩ ⟨ow2,t2,cl2,tt2,d2⟩/\(w.alloc (.cells #[.slice oa on oc,.int .u16 (t:Int),.int .u16 (cl:Int),.int .u32 (tt:Int),.slice a1 n1 k1,.slice a2 n2 k2,.slice a3 n3 k3,.slice a4 n4 k4] 43)).heap[w.heap.size]?=some (.cells #[.slice oa on oc,.int .u16 (t:Int),.int .u16 (cl:Int),.int .u32 (tt:Int),.slice a1 n1 k1,.slice a2 n2 k2,.slice a3 n3 k3,.slice a4 n4 k4] 43)):=⟨h0,h0x⟩
 have KF:∀W:World,Rep W p q f ⟨⟨oa2,on2,oc2⟩,⟨⟨b1,m1,h1⟩,⟨b2,m2,h2⟩,⟨b3,m3,h3⟩,⟨b4,m4,h4⟩⟩⟩ ⟨ow2,t2,cl2,tt2,d2⟩->W.cell? ⟨q,0,none⟩=some (.bool f)/\p<W.heap.size/\q<W.heap.size/\W.frozen? ⟨q,0,none⟩=false/\W.cell? ⟨p,0,none⟩=some (.slice oa2 on2 oc2)/\W.cell? ⟨p,1,none⟩=some (.int .u16 (t2:Int))/\W.cell? ⟨p,2,none⟩=some (.int .u16 (cl2:Int))/\W.cell? ⟨p,3,none⟩=some (.int .u32 (tt2:Int))/\W.cell? ⟨p,4,none⟩=some (.slice b1 m1 h1)/\W.cell? ⟨p,5,none⟩=some (.slice b2 m2 h2)/\W.cell? ⟨p,6,none⟩=some (.slice b3 m3 h3)/\W.cell? ⟨p,7,none⟩=some (.slice b4 m4 h4)/\W.frozen? ⟨p,0,none⟩=false/\W.frozen? ⟨p,1,none⟩=false/\W.frozen? ⟨p,2,none⟩=false/\W.frozen? ⟨p,3,none⟩=false/\W.frozen? ⟨p,4,none⟩=false/\W.frozen? ⟨p,5,none⟩=false/\W.frozen? ⟨p,6,none⟩=false/\W.frozen? ⟨p,7,none⟩=false:=fun W hW=>by
  have a1:W.heap[p]?=some (.cells #[.slice oa2 on2 oc2,.int .u16 (t2:Int),.int .u16 (cl2:Int),.int .u32 (tt2:Int),.slice b1 m1 h1,.slice b2 m2 h2,.slice b3 m3 h3,.slice b4 m4 h4] 43):=hW.p
  have a2:=hW.q
  exact ⟨bx_cell a2 rfl,lt_block a1,lt_block a2,by simp[World.frozen?,a2],bx_cell a1 rfl,bx_cell a1 rfl,bx_cell a1 rfl,bx_cell a1 rfl,bx_cell a1 rfl,bx_cell a1 rfl,bx_cell a1 rfl,bx_cell a1 rfl,by simp[World.frozen?,a1],by simp[World.frozen?,a1],by simp[World.frozen?,a1],by simp[World.frozen?,a1],by simp[World.frozen?,a1],by simp[World.frozen?,a1],by simp[World.frozen?,a1],by simp[World.frozen?,a1]⟩
 have KX:∀W:World,W.heap[w.heap.size]?=some (.cells #[.slice oa on oc,.int .u16 (t:Int),.int .u16 (cl:Int),.int .u32 (tt:Int),.slice a1 n1 k1,.slice a2 n2 k2,.slice a3 n3 k3,.slice a4 n4 k4] 43)->W.cell? ⟨w.heap.size,0,none⟩=some (.slice oa on oc)/\W.cell? ⟨w.heap.size,1,none⟩=some (.int .u16 (t:Int))/\W.cell? ⟨w.heap.size,2,none⟩=some (.int .u16 (cl:Int))/\W.cell? ⟨w.heap.size,3,none⟩=some (.int .u32 (tt:Int))/\W.cell? ⟨w.heap.size,4,none⟩=some (.slice a1 n1 k1)/\W.cell? ⟨w.heap.size,5,none⟩=some (.slice a2 n2 k2)/\W.cell? ⟨w.heap.size,6,none⟩=some (.slice a3 n3 k3)/\W.cell? ⟨w.heap.size,7,none⟩=some (.slice a4 n4 k4)/\w.heap.size<W.heap.size:=fun W hh=>
  ⟨bx_cell hh rfl,bx_cell hh rfl,bx_cell hh rfl,bx_cell hh rfl,bx_cell hh rfl,bx_cell hh rfl,bx_cell hh rfl,bx_cell hh rfl,lt_block hh⟩
 have hcd:((cl:Int) == (cl2:Int))=decide (cl=cl2):=by
  by_cases e:cl=cl2
  ·subst e;simp
  ·rw[decide_eq_false e];simp;omega
 have hne1:¬ p=q:=hne
 have hne2:¬ q=p:=fun e=>hne e.symm
 have hpw:¬ p=w.heap.size:=by omega
 have hqw:¬ q=w.heap.size:=by omega
 have KEx:=KE
 clear h hb0 h0 h0x hx hxl hxn hy hne KE
 obtain ⟨B,hBB⟩:∃B,B=w.heap.size:=⟨_,rfl⟩
 show Calls Tryz.prog 104 #[.agg #[.slice oa on oc,.int .u16 (t:Int),.int .u16 (cl:Int),.int .u32 (tt:Int),.slice a1 n1 k1,.slice a2 n2 k2,.slice a3 n3 k3,.slice a4 n4 k4],.pointer (some ⟨q,0,none⟩),.pointer (some ⟨p,0,none⟩)] w _
 simp only at HFIN KEx ⊢
 cases f with
 |true=>
  clear KEx
  obtain ⟨f0,f1,f2,f3,f4,f5,f6,f7,f8,f9,f10,f11,f12,f13,f14,f15,f16,f17,f18,f19⟩:=KF _ H0.out.1
  obtain ⟨g0,g1,g2,g3,g4,g5,g6,g7,g8⟩:=KX _ H0.out.2
  have HE:=Lib.hid (HFIN.out _ HB0.out H0.out.1)
  generalize decide (cl=cl2)=dc at*
  clear KF KX HFIN H0 HB0 hBB
  go_enter Tryz.func104,Tryz.ntmps104
  go_upto_region 1 with fail
  generalize w.alloc (.cells #[.slice oa on oc,.int .u16 (t:Int),.int .u16 (cl:Int),.int .u32 (tt:Int),.slice a1 n1 k1,.slice a2 n2 k2,.slice a3 n3 k3,.slice a4 n4 k4] 43)=wa at*
  go_wp2_with fail
  go_ret2
  exact ⟨rfl,HE.out⟩
 |false=>
  have KE2:=Lib.hid (KEx.out rfl _ HB0.out)
  obtain ⟨f0,f1,f2,f3,f4,f5,f6,f7,f8,f9,f10,f11,f12,f13,f14,f15,f16,f17,f18,f19⟩:=KF _ H0.out.1
  obtain ⟨g0,g1,g2,g3,g4,g5,g6,g7,g8⟩:=KX _ H0.out.2
  generalize decide (cl=cl2)=dc at*
  generalize decide (ow=ow2)=dw at*
  clear KEx
  go_enter Tryz.func104,Tryz.ntmps104
  go_wp2_with fail
  refine KE2.out.mono ?_
  rintro e w2 ⟨rfl,H2⟩
  have HR2:Hid (Rep w2 p q false ⟨⟨oa2,on2,oc2⟩,⟨⟨b1,m1,h1⟩,⟨b2,m2,h2⟩,⟨b3,m3,h3⟩,⟨b4,m4,h4⟩⟩⟩ ⟨ow2,t2,cl2,tt2,d2⟩/\w2.heap[w.heap.size]?=some (.cells #[.slice oa on oc,.int .u16 (t:Int),.int .u16 (cl:Int),.int .u32 (tt:Int),.slice a1 n1 k1,.slice a2 n2 k2,.slice a3 n3 k3,.slice a4 n4 k4] 43)/\Below w.heap.size w w2):=⟨H0.out.1.go H2.out,(H2.out.block _ g8).trans H0.out.2,HB0.out.trans (H2.out.mono HB0.out.size)⟩
  clear f0 f1 f2 f3 f4 f5 f6 f7 f8 f9 f10 f11 f12 f13 f14 f15 f16 f17 f18 f19 g0 g1 g2 g3 g4 g5 g6 g7 g8
  obtain ⟨f0,f1,f2,f3,f4,f5,f6,f7,f8,f9,f10,f11,f12,f13,f14,f15,f16,f17,f18,f19⟩:=KF _ HR2.out.1
  obtain ⟨g0,g1,g2,g3,g4,g5,g6,g7,g8⟩:=KX _ HR2.out.2.1
  have HE:=Lib.hid (HFIN.out _ HR2.out.2.2 HR2.out.1)
  clear KF KX HFIN H0 HB0 hBB H2 KE2
  go_wp2_with fail
  go_ret2
  exact ⟨rfl,HE.out⟩
theorem alloc_at(w:World)(o:Obj):(w.alloc o).heap[w.heap.size]?=some o:=by
 show (w.heap.push o)[w.heap.size]?=some o
 simp
structure LRd(w:World)(x:Sl)(rs:List Rec):Prop where
 rd:RdR w x.a rs
 len:rs.length=x.n
 n63:x.n<=9223372036854775807
theorem LRd.below{w w':World}{x:Sl}{rs:List Rec}(h:LRd w x rs)(hb:Below w.heap.size w w'):LRd w' x rs:=⟨h.rd.below hb,h.len,h.n63⟩
theorem lrd_new(w:World)(ps:List (RA × Rec))(n:Nat)(hn:ps.length=n)(hm:n<=9223372036854775807)(h:∀p∈ps,RRd w p.1 p.2):LRd (w.alloc (.cells (cellsR ps).toArray 43)) ⟨some ⟨w.heap.size,0,none⟩,n,n⟩ (ps.map (·.2)):=by
 refine ⟨?_,by simpa using hn,hm⟩
 by_cases h0:ps.map (·.2)=[]
 ·exact .inl h0
 refine .inr ⟨w.heap.size,0,rfl,by simp,fun i hi=>?_⟩
 have hi':i<ps.length:=by simpa using hi
 refine ⟨ps[i].1,fun j hj=>?_,?_⟩
 ·have e1:=cellsR_at ps i hi' j hj
  rw[List.getElem_map,Nat.zero_add]
  unfold World.cell?
  rw[alloc_at]
  simpa using e1
 ·rw[List.getElem_map]
  exact (h ps[i] (List.getElem_mem _)).below (new_below _ _)
def qOf:List Rec->Option (List ByteArray × Nat)
 |[]=>none
 |r::l=>match l with
  |[]=>some (r.ow,r.cl)
  |_=>qOf l
theorem textP_app(og:List ByteArray):∀(l:List Rec) (q:Option (List ByteArray × Nat)) (r:Rec),textP og q (l++[r])=textP og q l++stepP og (match l with|[]=>q|_=>qOf l) r
 |[],q,r=>by simp[textP]
 |[a],q,r=>by simp[textP,qOf]
 |a::b::l,q,r=>by
  have ih:=textP_app og (b::l) (some (a.ow,a.cl)) r
  show stepP og q a++textP og (some (a.ow,a.cl)) (b::l++[r])=stepP og q a++textP og (some (a.ow,a.cl)) (b::l)++_
  rw[ih,List.append_assoc]
  rfl
theorem textP_pre(og:List ByteArray):∀(a b:List Rec) (q:Option (List ByteArray × Nat)),∃t,textP og q (a++b)=textP og q a++t
 |[],b,q=>⟨textP og q b,by simp[textP]⟩
 |r::a,b,q=>by
  obtain ⟨t,ht⟩:=textP_pre og a b (some (r.ow,r.cl))
  refine ⟨t,?_⟩
  show stepP og q r++textP og _ (a++b)=stepP og q r++textP og _ a++t
  rw[ht,List.append_assoc]
theorem textP_le(og:List ByteArray)(l:List Rec)(j:Nat):(textP og none (l.take j)).length<=(textP og none l).length:=by
 obtain ⟨t,ht⟩:=textP_pre og (l.take j) (l.drop j) none
 rw[List.take_append_drop] at ht
 rw[ht,List.length_append]
 omega
theorem qOf_last:∀(l:List Rec) (r:Rec),qOf (l++[r])=some (r.ow,r.cl)
 |[],r=>rfl
 |[a],r=>rfl
 |a::b::l,r=>by
  have ih:=qOf_last (b::l) r
  exact ih
theorem textP_snoc(og:List ByteArray)(l:List Rec)(r:Rec):textP og none (l++[r])=textP og none l++stepP og (qOf l) r:=by
 have h:=textP_app og l none r
 cases l with
 |nil=>exact h
 |cons a l=>exact h
theorem step_mid(og:List ByteArray)(q:Option (List ByteArray × Nat))(r:Rec):stepP og q r=midP (if blkP q r=true then ⟨#[]⟩ else shF r.ow og) (clsP q r) r:=by
 unfold stepP midP
 cases blkP q r <;> cases clsP q r <;> simp
theorem step_le{og:List ByteArray}{q:Option (List ByteArray × Nat)}{r:Rec}(h:nck r.ow=0)(hg:nck og=0):(stepP og q r).length<=(lineP r).length:=by
 have h1:=sh_len h hg
 have h2:=text_pos h
 have e1:(shF r.ow og).data.toList.length=(shF r.ow og).size:=rfl
 have e2:(ntext r.ow).1.data.toList.length=(ntext r.ow).1.size:=rfl
 unfold stepP lineP
 cases blkP q r <;> cases clsP q r <;> simp only[if_true,Bool.false_eq_true,if_false,List.length_append,List.length_cons,List.length_nil] <;> omega
structure PrK(r:Rec):Prop where
 w:wrongF r=0
 b:Bd r.d
 t:r.t<65536
 cl:r.cl<65536
 tt:r.tt<4294967296
 wl:(wordsR r.t r.d).length<=100000
 z:(lineP r).length<=1000000000
structure PaS(w0:World)(b p q:Nat)(W:World)(l:List UInt8)(f:Bool)(y:RA)(s:Rec):Prop where
 g:G2 w0.heap.size W b (Lib.byteCells l)
 lo:Below w0.heap.size w0 W
 rp:Rep W p q f y s
 hp:w0.heap.size<=p
 hq:w0.heap.size<=q
 hb:w0.heap.size<=b
theorem PaS.go{w0 W W':World}{b p q:Nat}{l:List UInt8}{f:Bool}{y:RA}{s:Rec}(h:PaS w0 b p q W l f y s)(hb:Below W.heap.size W W'):PaS w0 b p q W' l f y s:=
 ⟨h.g.go hb,h.lo.trans (hb.mono h.lo.size),h.rp.go hb,h.hp,h.hq,h.hb⟩
theorem PaS.ne{w0 W:World}{b p q:Nat}{l:List UInt8}{f:Bool}{y:RA}{s:Rec}(h:PaS w0 b p q W l f y s):p≠b/\q≠b:=by
 obtain ⟨pp,vv,hb⟩:=h.g.at
 constructor
 ·rintro rfl
  have h1:=h.rp.p
  rw[hb] at h1;injection h1 with h1;injection h1 with _ h1 _
  exact absurd h1 (by decide)
 ·rintro rfl
  have h1:=h.rp.q
  rw[hb] at h1;injection h1 with h1;injection h1 with _ h1 _
  exact absurd h1 (by decide)
theorem PaS.put{w0 W W':World}{b p q:Nat}{l l':List UInt8}{f:Bool}{y:RA}{s:Rec}(h:PaS w0 b p q W l f y s)(h1:G2 w0.heap.size W' b (Lib.byteCells l'))(h2:Below w0.heap.size W W')(h3:OffB b W W'):PaS w0 b p q W' l' f y s:=
 ⟨h1,h.lo.trans h2,h.rp.off h3 h.ne.1 h.ne.2,h.hp,h.hq,h.hb⟩
theorem PaS.rep{w0 W W':World}{b p q:Nat}{l:List UInt8}{f:Bool}{x y:RA}{r s:Rec}(h:PaS w0 b p q W l f y s)(h1:Rep W' p q false x r)(h2:Fr2 p q W W'):PaS w0 b p q W' l false x r:=
 ⟨h.g.fr2 h.rp h2,h.lo.trans (h2.below h.hp h.hq h.lo.size),h1,h.hp,h.hq,h.hb⟩
theorem len66_any(bs:List Value)(w:World)(B b:Nat)(h:G2 B w b bs):Calls Tryz.prog 66 #[.pointer (some ⟨b,0,none⟩)] w fun e w'=>e=.returned (.int .i64 bs.length)/\w'=w:=by
 obtain ⟨p,ao,c,h1⟩:∃p ao c,BB w b p (.slice ao bs.length c):=by
  rcases h with ⟨h,e⟩|⟨v,g1,g2,g3,g4⟩
  ·subst e;exact ⟨_,_,_,h⟩
  ·obtain ⟨ao,c,rfl⟩:=row_shape g2
   exact ⟨_,_,_,g1⟩
 have c1:=h1.c1
 have hlt:=h1.lt
 generalize bs.length=n at*
 clear h h1
 go_enter Tryz.func66,Tryz.ntmps66
 go_wp2_with fail
 go_ret
 exact ⟨rfl,rfl⟩
def headP(og:List ByteArray):List UInt8:=cORGs++((ntext og).1.data.toList++[10])
theorem allP_eq(og:List ByteArray)(l:List Rec):allP og l=headP og++textP og none l:=by unfold allP headP;simp
theorem putAll30_any(w0 w:World)(b:Nat)(oa:Option Addr)(on oc:Nat)(og:List ByteArray)(x:Sl)(rs:List Rec)(hb:w0.heap.size<=b)(hB:Below w0.heap.size w0 w)(hg:G2 w0.heap.size w b (Lib.byteCells []))(ho:Nm w0 oa on og)(hk:nck og=0)(hl:LRd w0 x rs)(hn:x.n<=2048)(hr:∀r∈rs,PrK r)(hL:LayT w0) :
  Calls Tryz.prog 30 #[.pointer (some ⟨b,0,none⟩),.slice oa on oc,.slice x.a x.n x.c] w fun e w'=>e=.returned (.bool (decide ((allP og rs).length<=65536)))/\Hid (((allP og rs).length<=65536->G2 w0.heap.size w' b (Lib.byteCells (allP og rs)))/\Below w0.heap.size w0 w'):=by
 obtain ⟨DD,hDD⟩:∃DD,decide ((allP og rs).length<=65536)=DD:=⟨_,rfl⟩
 have HDD:=Lib.hid hDD
 rw[hDD]
 have KT:=Lib.hid (fun W (hW:Below w0.heap.size w0 W)=>text42_any oa on oc og W ⟨ho.rd.below hW,ho.len,ho.sz⟩)
 have htz:=text_size hk
 have HG0:Hid (G2 w0.heap.size w b (Lib.byteCells [])/\Below w0.heap.size w0 w):=⟨hg,hB⟩
 have HO:Hid (Nm w0 oa on og/\nck og=0):=⟨ho,hk⟩
 have hc4:catP [⟨#[36,79,82,73,71,73,78]⟩,⟨#[32]⟩,(ntext og).1,⟨#[10]⟩]=headP og:=by unfold headP cORGs;simp[catP]
 have hhl:(headP og).length<=1100:=by
  unfold headP cORGs
  have e:(ntext og).1.data.toList.length=(ntext og).1.size:=rfl
  simp only[List.length_append,List.length_cons,List.length_nil]
  omega
 have KP:=Lib.hid (fun W (h:G2 w0.heap.size W b (Lib.byteCells []))=>(put64_any w0.heap.size b W.heap.size 0 4 [] [⟨#[36,79,82,73,71,73,78]⟩,⟨#[32]⟩,(ntext og).1,⟨#[10]⟩] (W.alloc (.cells (tv [⟨#[36,79,82,73,71,73,78]⟩,⟨#[32]⟩,(ntext og).1,⟨#[10]⟩]).toArray 9)) (h.go (new_below _ _)) hb (PcT.new W _) rfl (by omega) (by rw[hc4];simp only[List.length_nil];omega)))
 simp only[tv,List.map_cons,List.map_nil,hc4,List.nil_append] at KP
 have HLAY:=Lib.hid hL
 have HAL:=Lib.hid (allP_eq og rs)
 have HH:=Lib.hid hhl
 generalize (ntext og).1=TX at*
 have HLL:=Lib.hid hl
 have HRR:=Lib.hid hr
 obtain ⟨xa,xn,xc⟩:=x
 simp only at hn ⊢
 have hlen:rs.length=xn:=hl.len
 have HLEN:=Lib.hid hlen
 clear hl hr hlen hg hB ho hk htz hc4 hhl hDD
 go_enter Tryz.func30,Tryz.ntmps30
 go_wp2_with fail
 refine (KT.out _ HG0.out.2).mono ?_
 rintro e w1 ⟨rfl,H1⟩
 have HG1:Hid (G2 w0.heap.size w1 b (Lib.byteCells [])/\Below w0.heap.size w0 w1):=⟨HG0.out.1.go H1.out,HG0.out.2.trans (H1.out.mono HG0.out.2.size)⟩
 go_wp2_with fail
 refine (KP.out w1 HG1.out.1).mono ?_
 rintro e w2 ⟨rfl,H2⟩
 have HB2:Hid (Below w0.heap.size w0 w2):=(HG1.out.2.trans ((new_below _ _).mono HG1.out.2.size)).trans H2.out.2.1
 go_wp2_with fail
 refine (repeats65 w2).mono ?_
 rintro e w3 ⟨rfl,H3⟩
 have HS3:Hid (PaS w0 b w2.heap.size (w2.heap.size+1) w3 (headP og) true noA noR):=⟨H2.out.1.go H3.out.2,HB2.out.trans (H3.out.2.mono HB2.out.size),H3.out.1,HB2.out.size,Nat.le_succ_of_le HB2.out.size,hb⟩
 clear H1 H2 H3 HG0 HG1 HB2 KP KT
 generalize w2.heap.size=p at*
 obtain ⟨q,hq⟩:∃q,p+1=q:=⟨_,rfl⟩
 rw[hq] at HS3 ⊢
 clear hq
 go_wp2_with fail
 go_loopw [21] (fun v wr=>∃k:Nat,k<=xn/\v=.int .i64 (k:Int)/\∃(l:List UInt8) (f:Bool) (y:RA) (s:Rec),l.length<=65536/\Hid (l=headP og++textP og none (rs.take k))/\f=(k == 0)/\Hid (PaS w0 b p q wr l f y s)/\Hid (qOf (rs.take k)=if f=true then none else some (s.ow,s.cl))/\(f=false->Hid ((∀W,Below w0.heap.size w0 W->RdT W y.o.a s.ow)/\s.ow.length=y.o.n/\y.o.n<=1000))/\(f=true->s.cl=1)) (fun v _=>xn - (intOf v).toNat)
 case atStart=>exact ⟨0,Nat.zero_le _,rfl,headP og,true,noA,noR,by have:=HH.out;omega,(by show _=_;simp[textP]),rfl,HS3.out,(by show _=_;rfl),(fun h=>by cases h),fun _=>rfl⟩
 case round=>
  clear HS3
  obtain ⟨k,hk,rfl,l,f,y,s,hlz,HL0,hf,HS,HQ,HY,hcl1⟩:=hrel
  by_cases hlt:k<xn
  ·have hlt':(k:Int)<(xn:Int):=by omega
   have hkr:k<rs.length:=by rw[HLEN.out];exact hlt
   obtain ⟨lb,lo,hla,hll,x,hx0,hxr0⟩:=HLL.out.rd.at k hkr
   simp only at hla
   subst hla
   have hx:∀j,j<8->wr.cell? ⟨lb,lo+k*8+j,none⟩=(recCells x rs[k])[j]?:=fun j hj=>(HS.out.lo.cell (p:=⟨lb,lo+k*8+j,none⟩) hll).trans (hx0 j hj)
   obtain ⟨r,hrk⟩:∃r,rs[k]=r:=⟨_,rfl⟩
   rw[hrk] at hx hxr0
   have hpr:PrK r:=by rw[<- hrk];exact HRR.out _ (List.getElem_mem hkr)
   have htk:rs.take (k+1)=rs.take k++[r]:=by rw[List.take_succ_eq_append_getElem hkr,hrk]
   obtain ⟨hrk0,hrc,-⟩:=wrong_ok hpr.w
   have hon:x.o.n<=1000:=by
    have h1:=hxr0.1.len
    have h2:=(nck_small hrk0).1
    have h3:=nsz_len r.ow
    omega
   have hnm:Nm w0 x.o.a x.o.n r.ow:=⟨hxr0.1.rd,hxr0.1.len,by have:=(nck_small hrk0).1;omega⟩
   have HY2:Hid ((∀W,Below w0.heap.size w0 W->RdT W x.o.a r.ow)/\r.ow.length=x.o.n/\x.o.n<=1000):=⟨fun W hW=>hxr0.1.rd.below hW,hxr0.1.len,hon⟩
   -- the line
   have hstep:=step_mid og (qOf (rs.take k)) r
   have hsl:=step_le (q:=qOf (rs.take k)) hrk0 HO.out.2
   obtain ⟨blk,hblk⟩:∃blk,blkP (qOf (rs.take k)) r=blk:=⟨_,rfl⟩
   obtain ⟨cls,hcls⟩:∃cls,clsP (qOf (rs.take k)) r=cls:=⟨_,rfl⟩
   have hdw:(!f && decide (r.ow=s.ow))=blk:=by
    rw[<- hblk,HQ.out]
    cases f with
    |true=>rfl
    |false=>simp only[Bool.not_false,Bool.true_and,Bool.false_eq_true,if_false,blkP];exact decide_eq_decide.2 ⟨fun h=>h.symm,fun h=>h.symm⟩
   have hnr:=hcl1
   have hdc:(!(decide (r.cl=s.cl)))=cls:=by
    rw[<- hcls,HQ.out]
    cases f with
    |true=>simp only[if_true,clsP,hnr rfl];by_cases e:r.cl=1 <;> simp[e]
    |false=>simp only[Bool.false_eq_true,if_false,clsP];by_cases e:r.cl=s.cl <;> simp[e];exact fun h=>e h.symm
   rw[hblk,hcls] at hstep
   have hmz:l.length+(midP (if blk=true then ⟨#[]⟩ else shF r.ow og) cls r).length<=140737488355328:=by
    rw[<- hstep];have:=hpr.z;omega
   obtain ⟨O,hO⟩:∃O,(if blk=true then (⟨#[]⟩:ByteArray) else shF r.ow og)=O:=⟨_,rfl⟩
   rw[hO] at hmz hstep
   have hLN:l++midP O cls r=headP og++textP og none (rs.take (k+1)):=by rw[htk,textP_snoc,hstep,HL0.out,List.append_assoc]
   have hbig:65536<(l++midP O cls r).length->DD=false:=fun h=>by
    rw[<- HDD.out,HAL.out]
    have:=textP_le og rs (k+1)
    rw[hLN] at h
    simp only[List.length_append] at h ⊢
    simp only[decide_eq_false_iff_not]
    omega
   have KL:=Lib.hid (fun W f' y' s' (h:PaS w0 b p q W l f' y' s')=>(pline41_any w0 W b l O x r cls hb h.lo h.g hxr0 HLAY.out hrc hpr.b hpr.t hpr.cl hpr.tt hpr.wl hmz).mono (R':=fun e w'=>e=.returned (.tuple #[])/\Hid (PaS w0 b p q w' (l++midP O cls r) f' y' s'/\OffB b W w')) fun e w' z=>⟨z.1,h.put z.2.out.1 z.2.out.2.1 z.2.out.2.2,z.2.out.2.2⟩)
   have KS:=Lib.hid (fun W (hW:Below w0.heap.size w0 W)=>short39_any x.o.a oa x.o.n on x.o.c oc r.ow og W ⟨hnm.rd.below hW,hnm.len,hnm.sz⟩ ⟨HO.out.1.rd.below hW,HO.out.1.len,HO.out.1.sz⟩ hrk0 HO.out.2 hxr0.1.cap hxr0.1.nil)
   have KR:=Lib.hid (rep104_any p q f x y r s (wr.alloc (.cells (recCells x r).toArray 43)) (HS.out.go (new_below _ _)).rp (fun W hW=>HY2.out.1 W ((HS.out.go (new_below wr _)).lo.trans (hW.mono (HS.out.go (new_below wr _)).lo.size))) HY2.out.2.1 HY2.out.2.2 (fun h=>⟨fun W hW=>(HY h).out.1 W ((HS.out.go (new_below wr _)).lo.trans (hW.mono (HS.out.go (new_below wr _)).lo.size)),(HY h).out.2.1,(HY h).out.2.2⟩))
   rw[hdw] at KR
   have HQ2:Hid (qOf (rs.take (k+1))=if false=true then none else some (r.ow,r.cl)):=by show _=_;rw[htk,qOf_last];rfl
   have hpl:=lt_block HS.out.rp.p
   have hql:=lt_block HS.out.rp.q
   have HPW:Hid (PaS w0 b p q (wr.alloc (.cells (recCells x r).toArray 43)) l f y s/\(wr.alloc (.cells (recCells x r).toArray 43)).heap[wr.heap.size]?=some (.cells (recCells x r).toArray 43)):=⟨HS.out.go (new_below _ _),heap_alloc_new _ _⟩
   have hll2:lb<wr.heap.size:=Nat.lt_of_lt_of_le hll HS.out.lo.size
   obtain ⟨LN,hLNe⟩:∃LN,l++midP O cls r=LN:=⟨_,rfl⟩
   rw[hLNe] at hLN hbig KL
   have HBIG:=Lib.hid hbig
   have HLN:Hid (LN=headP og++textP og none (rs.take (k+1))):=hLN
   have HOO:=Lib.hid hO
   generalize decide (r.cl=s.cl)=dc at*
   subst hdc
   clear hLN hbig hLNe hmz hstep hsl hblk hcls hdw hpr htk hrk hrk0 hrc hnm hon hx0 HY hcl1 hnr HQ
   have c0:=hx 0 (by omega)
   have c1:=hx 1 (by omega)
   have c2:=hx 2 (by omega)
   have c3:=hx 3 (by omega)
   have c4:=hx 4 (by omega)
   have c5:=hx 5 (by omega)
   have c6:=hx 6 (by omega)
   have c7:=hx 7 (by omega)
   obtain ⟨⟨oa1,on1,oc1⟩,⟨⟨a1,n1,k1⟩,⟨a2,n2,k2⟩,⟨a3,n3,k3⟩,⟨a4,n4,k4⟩⟩⟩:=x
   obtain ⟨ow,t,cl,tt,d⟩:=r
   simp only[recCells,Nat.add_zero] at c0 c1 c2 c3 c4 c5 c6 c7
   replace c0:wr.cell? ⟨lb,lo+k*8,none⟩=some (.slice oa1 on1 oc1):=c0
   replace c1:wr.cell? ⟨lb,lo+k*8+1,none⟩=some (.int .u16 (t:Int)):=c1
   replace c2:wr.cell? ⟨lb,lo+k*8+2,none⟩=some (.int .u16 (cl:Int)):=c2
   replace c3:wr.cell? ⟨lb,lo+k*8+3,none⟩=some (.int .u32 (tt:Int)):=c3
   replace c4:wr.cell? ⟨lb,lo+k*8+4,none⟩=some (.slice a1 n1 k1):=c4
   replace c5:wr.cell? ⟨lb,lo+k*8+5,none⟩=some (.slice a2 n2 k2):=c5
   replace c6:wr.cell? ⟨lb,lo+k*8+6,none⟩=some (.slice a3 n3 k3):=c6
   replace c7:wr.cell? ⟨lb,lo+k*8+7,none⟩=some (.slice a4 n4 k4):=c7
   replace KR:Hid (Calls Tryz.prog 104 #[.agg #[.slice oa1 on1 oc1,.int .u16 (t:Int),.int .u16 (cl:Int),.int .u32 (tt:Int),.slice a1 n1 k1,.slice a2 n2 k2,.slice a3 n3 k3,.slice a4 n4 k4],.pointer (some ⟨q,0,none⟩),.pointer (some ⟨p,0,none⟩)] (wr.alloc (.cells #[.slice oa1 on1 oc1,.int .u16 (t:Int),.int .u16 (cl:Int),.int .u32 (tt:Int),.slice a1 n1 k1,.slice a2 n2 k2,.slice a3 n3 k3,.slice a4 n4 k4] 43)) fun e w'=>e=.returned (.tuple #[.bool blk,.bool dc])/\Hid (Rep w' p q false ⟨⟨oa1,on1,oc1⟩,⟨⟨a1,n1,k1⟩,⟨a2,n2,k2⟩,⟨a3,n3,k3⟩,⟨a4,n4,k4⟩⟩⟩ ⟨ow,t,cl,tt,d⟩/\Fr2 p q (wr.alloc (.cells #[.slice oa1 on1 oc1,.int .u16 (t:Int),.int .u16 (cl:Int),.int .u32 (tt:Int),.slice a1 n1 k1,.slice a2 n2 k2,.slice a3 n3 k3,.slice a4 n4 k4] 43)) w')):=KR
   replace HPW:Hid (PaS w0 b p q (wr.alloc (.cells #[.slice oa1 on1 oc1,.int .u16 (t:Int),.int .u16 (cl:Int),.int .u32 (tt:Int),.slice a1 n1 k1,.slice a2 n2 k2,.slice a3 n3 k3,.slice a4 n4 k4] 43)) l f y s/\(wr.alloc (.cells #[.slice oa1 on1 oc1,.int .u16 (t:Int),.int .u16 (cl:Int),.int .u32 (tt:Int),.slice a1 n1 k1,.slice a2 n2 k2,.slice a3 n3 k3,.slice a4 n4 k4] 43)).heap[wr.heap.size]?=some (.cells #[.slice oa1 on1 oc1,.int .u16 (t:Int),.int .u16 (cl:Int),.int .u32 (tt:Int),.slice a1 n1 k1,.slice a2 n2 k2,.slice a3 n3 k3,.slice a4 n4 k4] 43)):=HPW
   replace KL:Hid (∀W f' y' s',PaS w0 b p q W l f' y' s'->Calls Tryz.prog 41 #[.pointer (some ⟨b,0,none⟩),.string O,.agg #[.slice oa1 on1 oc1,.int .u16 (t:Int),.int .u16 (cl:Int),.int .u32 (tt:Int),.slice a1 n1 k1,.slice a2 n2 k2,.slice a3 n3 k3,.slice a4 n4 k4],.bool (!dc)] W fun e w'=>e=.returned (.tuple #[])/\Hid (PaS w0 b p q w' LN f' y' s'/\OffB b W w')):=KL
   simp only at KS
   clear hx hxr0 HS HL0
   go_wp2_with fail
   refine KR.out.mono ?_
   rintro e w4 ⟨rfl,H4⟩
   have hbx4:w4.heap[wr.heap.size]?=some (.cells #[.slice oa1 on1 oc1,.int .u16 (t:Int),.int .u16 (cl:Int),.int .u32 (tt:Int),.slice a1 n1 k1,.slice a2 n2 k2,.slice a3 n3 k3,.slice a4 n4 k4] 43):=(H4.out.2.block wr.heap.size (by simp) (by omega) (by omega)).trans HPW.out.2
   have HS4:Hid (PaS w0 b p q w4 l false ⟨⟨oa1,on1,oc1⟩,⟨⟨a1,n1,k1⟩,⟨a2,n2,k2⟩,⟨a3,n3,k3⟩,⟨a4,n4,k4⟩⟩⟩ ⟨ow,t,cl,tt,d⟩):=HPW.out.1.rep H4.out.1 H4.out.2
   have d0:=bx_cell (i:=0) hbx4 rfl
   have d1:=bx_cell (i:=1) hbx4 rfl
   have d2:=bx_cell (i:=2) hbx4 rfl
   have d3:=bx_cell (i:=3) hbx4 rfl
   have d4:=bx_cell (i:=4) hbx4 rfl
   have d5:=bx_cell (i:=5) hbx4 rfl
   have d6:=bx_cell (i:=6) hbx4 rfl
   have d7:=bx_cell (i:=7) hbx4 rfl
   have dl:=lt_block hbx4
   have HBX4:=Lib.hid hbx4
   clear c0 c1 c2 c3 c4 c5 c6 c7 hpl hql hll2 KR HPW H4 hbx4
   cases blk with
   |true=>
    simp only[if_true] at hO
    subst hO
    clear KS
    go_wp2_with fail
    refine (KL.out _ _ _ _ HS4.out).mono ?_
    rintro e w6 ⟨rfl,H6⟩
    clear d0 d1 d2 d3 d4 d5 d6 d7 dl
    have KN:=Lib.hid (len66_any (Lib.byteCells LN) w6 w0.heap.size b H6.out.1.g)
    rw[Lib.byteCells_length] at KN
    go_wp2_with fail
    refine KN.out.mono ?_
    rintro e w7 ⟨rfl,rfl⟩
    by_cases hgt:65536<LN.length
    ·have hgt':(65536:Int)<(LN.length:Int):=by omega
     have HF:Hid (DD=false):=HBIG.out hgt
     go_wp2_with fail
     go_ret
     exact ⟨by rw[HF.out];rfl,(fun h=>by have h2:=HDD.out;rw[HF.out] at h2;simp only[decide_eq_false_iff_not] at h2;exact absurd h h2),H6.out.1.lo⟩
    ·have hle':¬ (65536:Int)<(LN.length:Int):=by omega
     go_wp2_with fail
     exact ⟨⟨k+1,by omega,by go_num,LN,false,⟨⟨oa1,on1,oc1⟩,⟨⟨a1,n1,k1⟩,⟨a2,n2,k2⟩,⟨a3,n3,k3⟩,⟨a4,n4,k4⟩⟩⟩,⟨ow,t,cl,tt,d⟩,by omega,HLN.out,rfl,H6.out.1,HQ2.out,(fun _=>HY2.out),(fun h=>by cases h)⟩,by simp[intOf];omega⟩
   |false=>
    simp only[Bool.false_eq_true,if_false] at hO
    rw[hO] at KS
    go_wp2_with fail
    refine (KS.out _ HS4.out.lo).mono ?_
    rintro e w5 ⟨rfl,H5⟩
    have HS5:Hid (PaS w0 b p q w5 l false ⟨⟨oa1,on1,oc1⟩,⟨⟨a1,n1,k1⟩,⟨a2,n2,k2⟩,⟨a3,n3,k3⟩,⟨a4,n4,k4⟩⟩⟩ ⟨ow,t,cl,tt,d⟩):=HS4.out.go H5.out
    have hbx5:=(H5.out.block _ dl).trans HBX4.out
    clear d0 d1 d2 d3 d4 d5 d6 d7 dl
    have d0:=bx_cell (i:=0) hbx5 rfl
    have d1:=bx_cell (i:=1) hbx5 rfl
    have d2:=bx_cell (i:=2) hbx5 rfl
    have d3:=bx_cell (i:=3) hbx5 rfl
    have d4:=bx_cell (i:=4) hbx5 rfl
    have d5:=bx_cell (i:=5) hbx5 rfl
    have d6:=bx_cell (i:=6) hbx5 rfl
    have d7:=bx_cell (i:=7) hbx5 rfl
    have dl:=lt_block hbx5
    clear hbx5 HBX4
    go_wp2_with fail
    refine (KL.out _ _ _ _ HS5.out).mono ?_
    rintro e w6 ⟨rfl,H6⟩
    clear d0 d1 d2 d3 d4 d5 d6 d7 dl
    have KN:=Lib.hid (len66_any (Lib.byteCells LN) w6 w0.heap.size b H6.out.1.g)
    rw[Lib.byteCells_length] at KN
    go_wp2_with fail
    refine KN.out.mono ?_
    rintro e w7 ⟨rfl,rfl⟩
    by_cases hgt:65536<LN.length
    ·have hgt':(65536:Int)<(LN.length:Int):=by omega
     have HF:Hid (DD=false):=HBIG.out hgt
     go_wp2_with fail
     go_ret
     exact ⟨by rw[HF.out];rfl,(fun h=>by have h2:=HDD.out;rw[HF.out] at h2;simp only[decide_eq_false_iff_not] at h2;exact absurd h h2),H6.out.1.lo⟩
    ·have hle':¬ (65536:Int)<(LN.length:Int):=by omega
     go_wp2_with fail
     exact ⟨⟨k+1,by omega,by go_num,LN,false,⟨⟨oa1,on1,oc1⟩,⟨⟨a1,n1,k1⟩,⟨a2,n2,k2⟩,⟨a3,n3,k3⟩,⟨a4,n4,k4⟩⟩⟩,⟨ow,t,cl,tt,d⟩,by omega,HLN.out,rfl,H6.out.1,HQ2.out,(fun _=>HY2.out),(fun h=>by cases h)⟩,by simp[intOf];omega⟩
  ·obtain rfl:k=xn:=by omega
   have hge:¬ (k:Int)<(k:Int):=by omega
   have HA:Hid (l=allP og rs):=by
    show _=_
    rw[HL0.out,HAL.out,List.take_of_length_le (by rw[HLEN.out];omega)]
   have HT:Hid (DD=true):=by
    show _=_
    rw[<- HDD.out,<- HA.out]
    exact decide_eq_true hlz
   go_wp2_with fail
   go_ret
   exact ⟨by rw[HT.out];rfl,fun _=>by rw[<- HA.out];exact HS.out.g,HS.out.lo⟩
theorem wrongs_app:∀a b:List Rec,wrongsF (a++b)=if wrongsF a=0 then wrongsF b else wrongsF a
 |[],b=>by simp[wrongsF]
 |r::a,b=>by
  have e1:wrongsF (r::(a++b))=if wrongF r=0 then wrongsF (a++b) else wrongF r:=rfl
  have e2:wrongsF (r::a)=if wrongF r=0 then wrongsF a else wrongF r:=rfl
  show wrongsF (r::(a++b))=_
  rw[e1,e2]
  by_cases h:wrongF r=0
  ·rw[if_pos h,if_pos h];exact wrongs_app a b
  ·rw[if_neg h,if_neg h,if_neg h]
structure PrI(r:Rec):Prop where
 b:Bd r.d
 t:r.t<65536
 cl:r.cl<65536
 tt:r.tt<4294967296
 o:r.ow.length<=1000
 wl:(wordsR r.t r.d).length<=100000
 z:wrongF r=0->(lineP r).length<=1000000000
theorem text9_any(oa:Option Addr)(on oc:Nat)(og:List ByteArray)(x:Sl)(rs:List Rec)(w:World)(ho:TRd w ⟨oa,on,oc⟩ og)(hon:on<=1000)(hl:LRd w x rs)(hr:∀r∈rs,PrI r)(hL:LayT w) :
  Calls Tryz.prog 9 #[.slice oa on oc,.slice x.a x.n x.c] w fun e w'=>e=.returned (.tuple #[.string ⟨(paperF og rs).1.toArray⟩,.int .i64 (paperF og rs).2])/\Hid (Below w.heap.size w w'):=by
 obtain ⟨xa,xn,xc⟩:=x
 have hw:Nw w oa on og:=⟨ho.rd,ho.len,hon,ho.z63⟩
 have KN:=Lib.hid (wcheck oc hw)
 have hlen:rs.length=xn:=hl.len
 have h63:xn<=9223372036854775807:=hl.n63
 have HP:Hid (paperF og rs=if nck og≠0 then ([],nck og) else if 2048<rs.length then ([],3) else if wrongsF rs≠0 then ([],wrongsF rs) else if 65536<(allP og rs).length then ([],3) else (allP og rs,0)):=(by show _=_;rfl)
 simp only
 by_cases hk:nck og=0
 case neg=>
  have hR:paperF og rs=([],nck og):=by rw[HP.out,if_pos hk]
  rw[hR]
  generalize nck og=q at*
  have hq:(q != 0)=true:=bne_iff_ne.2 hk
  clear hw hR hk ho hl hL hr HP hlen
  go_enter Tryz.func9,Tryz.ntmps9
  go_wp2_with fail
  refine KN.out.mono ?_
  rintro e w1 ⟨rfl,rfl⟩
  go_wp2_with fail
  go_ret2
  exact ⟨rfl,Below.refl _ _⟩
 rw[hk] at KN
 by_cases hbig:2048<xn
 ·have hR:paperF og rs=([],3):=by rw[HP.out,if_neg (fun e=>e hk),if_pos (by omega)]
  rw[hR]
  have hbig':(2048:Int)<(xn:Int):=by omega
  clear hw hR hk ho hl hL hr HP hlen
  go_enter Tryz.func9,Tryz.ntmps9
  go_wp2_with fail
  refine KN.out.mono ?_
  rintro e w1 ⟨rfl,rfl⟩
  go_wp2_with fail
  go_ret2
  exact ⟨rfl,Below.refl _ _⟩
 have hbig':¬ (2048:Int)<(xn:Int):=by omega
 have HPA:Hid ((∀r∈rs,PrK r)->∀(w0 V:World) (b:Nat),w0.heap.size<=b->Below w.heap.size w w0->Below w0.heap.size w0 V->G2 w0.heap.size V b (Lib.byteCells [])->Calls Tryz.prog 30 #[.pointer (some ⟨b,0,none⟩),.slice oa on oc,.slice xa xn xc] V fun e w'=>e=.returned (.bool (decide ((allP og rs).length<=65536)))/\Hid (((allP og rs).length<=65536->G2 w0.heap.size w' b (Lib.byteCells (allP og rs)))/\Below w0.heap.size w0 w')):=fun hpk w0 V b hb h0 hV hg=>putAll30_any w0 V b oa on oc og ⟨xa,xn,xc⟩ rs hb hV hg ((hw.nm hk).rd.below h0 |> fun z=>⟨z,ho.len,(hw.nm hk).sz⟩) hk (hl.below h0) (by show xn<=2048;omega) hpk (hL.below h0)
 have HLL:=Lib.hid hl
 have HRI:=Lib.hid hr
 have HLEN:=Lib.hid hlen
 have HPR:Hid (wrongsF rs=0->∀r∈rs,PrK r):=fun h r hm=>by
  have h1:=hr r hm
  have h2:=wrongs_ok h r hm
  exact ⟨h2,h1.b,h1.t,h1.cl,h1.tt,h1.wl,h1.z h2⟩
 have HR:Hid (paperF og rs=if wrongsF rs≠0 then ([],wrongsF rs) else if 65536<(allP og rs).length then ([],3) else (allP og rs,0)):=by
  show _=_
  rw[HP.out,if_neg (fun e=>e hk),if_neg (by omega)]
 generalize paperF og rs=PF at*
 clear hw hk ho hl hL hr HP hlen
 go_enter Tryz.func9,Tryz.ntmps9
 go_wp2_with fail
 refine KN.out.mono ?_
 rintro e w1 ⟨rfl,rfl⟩
 clear KN
 go_wp2_with fail
 go_loopw [21] (fun v wr=>∃k:Nat,k<=xn/\v=.int .i64 (k:Int)/\Hid (Below w1.heap.size w1 wr)/\Hid (wrongsF (rs.take k)=0)) (fun v _=>xn - (intOf v).toNat)
 case atStart=>exact ⟨0,Nat.zero_le _,rfl,Below.refl _ _,(by show _=_;simp[wrongsF])⟩
 case round=>
  obtain ⟨k,hk,rfl,HB,HW⟩:=hrel
  by_cases hlt:k<xn
  ·have hlt':(k:Int)<(xn:Int):=by omega
   have hkr:k<rs.length:=by rw[HLEN.out];exact hlt
   obtain ⟨lb,lo,hla,hll,x,hx0,hxr0⟩:=HLL.out.rd.at k hkr
   simp only at hla
   subst hla
   have hx:∀j,j<8->wr.cell? ⟨lb,lo+k*8+j,none⟩=(recCells x rs[k])[j]?:=fun j hj=>(HB.out.cell (p:=⟨lb,lo+k*8+j,none⟩) hll).trans (hx0 j hj)
   obtain ⟨r,hrk⟩:∃r,rs[k]=r:=⟨_,rfl⟩
   rw[hrk] at hx hxr0
   have hpi:PrI r:=by rw[<- hrk];exact HRI.out _ (List.getElem_mem hkr)
   have htk:rs.take (k+1)=rs.take k++[r]:=by rw[List.take_succ_eq_append_getElem hkr,hrk]
   have hon1:x.o.n<=1000:=by have h1:=hxr0.1.len;have h2:=hpi.o;omega
   have HBA:Hid (Below w1.heap.size w1 (wr.alloc (.cells (recCells x r).toArray 43))):=HB.out.trans ((new_below _ _).mono HB.out.size)
   have KC:=Lib.hid (check29_any x r (wr.alloc (.cells (recCells x r).toArray 43)) (hxr0.below HBA.out) hon1 hpi.b)
   have hll2:lb<wr.heap.size:=Nat.lt_of_lt_of_le hll HB.out.size
   have HWS:Hid (wrongF r≠0->wrongsF rs=wrongF r):=fun h=>by
    have e:rs=rs.take k++(r::rs.drop (k+1)):=by
     conv=>lhs;rw[<- List.take_append_drop k rs,List.drop_eq_getElem_cons hkr,hrk]
    rw[e,wrongs_app,if_pos HW.out]
    unfold wrongsF
    rw[if_neg h]
   have HWT:Hid (wrongF r=0->wrongsF (rs.take (k+1))=0):=fun h=>by
    rw[htk,wrongs_app,if_pos HW.out]
    unfold wrongsF
    rw[if_pos h]
    rfl
   generalize wrongF r=q at*
   obtain ⟨⟨oa1,on1,oc1⟩,⟨⟨a1,n1,k1⟩,⟨a2,n2,k2⟩,⟨a3,n3,k3⟩,⟨a4,n4,k4⟩⟩⟩:=x
   obtain ⟨ow,t,cl,tt,d⟩:=r
   have c0:wr.cell? ⟨lb,lo+k*8,none⟩=some (.slice oa1 on1 oc1):=hx 0 (by omega)
   have c1:wr.cell? ⟨lb,lo+k*8+1,none⟩=some (.int .u16 (t:Int)):=hx 1 (by omega)
   have c2:wr.cell? ⟨lb,lo+k*8+2,none⟩=some (.int .u16 (cl:Int)):=hx 2 (by omega)
   have c3:wr.cell? ⟨lb,lo+k*8+3,none⟩=some (.int .u32 (tt:Int)):=hx 3 (by omega)
   have c4:wr.cell? ⟨lb,lo+k*8+4,none⟩=some (.slice a1 n1 k1):=hx 4 (by omega)
   have c5:wr.cell? ⟨lb,lo+k*8+5,none⟩=some (.slice a2 n2 k2):=hx 5 (by omega)
   have c6:wr.cell? ⟨lb,lo+k*8+6,none⟩=some (.slice a3 n3 k3):=hx 6 (by omega)
   have c7:wr.cell? ⟨lb,lo+k*8+7,none⟩=some (.slice a4 n4 k4):=hx 7 (by omega)
   replace KC:Hid (Calls Tryz.prog 29 #[.agg #[.slice oa1 on1 oc1,.int .u16 (t:Int),.int .u16 (cl:Int),.int .u32 (tt:Int),.slice a1 n1 k1,.slice a2 n2 k2,.slice a3 n3 k3,.slice a4 n4 k4]] (wr.alloc (.cells #[.slice oa1 on1 oc1,.int .u16 (t:Int),.int .u16 (cl:Int),.int .u32 (tt:Int),.slice a1 n1 k1,.slice a2 n2 k2,.slice a3 n3 k3,.slice a4 n4 k4] 43)) fun e w'=>e=.returned (.int .i64 q)/\Hid (Below (wr.alloc (.cells #[.slice oa1 on1 oc1,.int .u16 (t:Int),.int .u16 (cl:Int),.int .u32 (tt:Int),.slice a1 n1 k1,.slice a2 n2 k2,.slice a3 n3 k3,.slice a4 n4 k4] 43)).heap.size (wr.alloc (.cells #[.slice oa1 on1 oc1,.int .u16 (t:Int),.int .u16 (cl:Int),.int .u32 (tt:Int),.slice a1 n1 k1,.slice a2 n2 k2,.slice a3 n3 k3,.slice a4 n4 k4] 43)) w')):=KC
   replace HBA:Hid (Below w1.heap.size w1 (wr.alloc (.cells #[.slice oa1 on1 oc1,.int .u16 (t:Int),.int .u16 (cl:Int),.int .u32 (tt:Int),.slice a1 n1 k1,.slice a2 n2 k2,.slice a3 n3 k3,.slice a4 n4 k4] 43))):=HBA
   clear hx hx0 hxr0 hrk hpi htk hon1 HW
   by_cases hq:q=0
   ·subst hq
    go_wp2_with fail
    refine KC.out.mono ?_
    rintro e w3 ⟨rfl,H3⟩
    go_wp2_with fail
    exact ⟨⟨k+1,by omega,by go_num,HBA.out.trans (H3.out.mono HBA.out.size),HWT.out (by first|rfl|trivial)⟩,by simp[intOf];omega⟩
   ·have hq':(q != 0)=true:=bne_iff_ne.2 hq
    have HE:Hid (PF=([],q)):=by
     show _=_
     rw[HR.out,HWS.out hq,if_pos hq]
    go_wp2_with fail
    refine KC.out.mono ?_
    rintro e w3 ⟨rfl,H3⟩
    have HB3:=Lib.hid (HBA.out.trans (H3.out.mono HBA.out.size))
    go_wp2_with fail
    go_ret2
    exact ⟨by rw[HE.out];rfl,HB3.out⟩
  ·obtain rfl:k=xn:=by omega
   have hge:¬ (k:Int)<(k:Int):=by omega
   have HW0:Hid (wrongsF rs=0):=by
    have h:=HW.out
    rw[List.take_of_length_le (by rw[HLEN.out];omega)] at h
    exact h
   have KP:=Lib.hid (HPA.out (HPR.out HW0.out) wr (wr.alloc (.cells #[.pointer none,.slice none 0 0] 65)) wr.heap.size (Nat.le_refl _) HB.out (new_below _ _) (bb_new wr))
   clear HW HPA HPR
   by_cases hz:(allP og rs).length<=65536
   ·have HE:Hid (PF=(allP og rs,0)):=by
     show _=_
     rw[HR.out,if_neg (fun e=>e HW0.out),if_neg (by omega)]
    rw[show decide ((allP og rs).length<=65536)=true from decide_eq_true hz] at KP
    generalize allP og rs=LP at*
    go_wp2_with fail
    refine KP.out.mono ?_
    rintro e w3 ⟨rfl,H3⟩
    have HS:=Lib.hid (wstringU wr.heap.size wr.heap.size LP w3 (H3.out.1 hz) (by omega))
    have HB3:=Lib.hid (HB.out.trans (H3.out.2.mono HB.out.size))
    go_wp2_with fail
    refine HS.out.mono ?_
    rintro e w4 ⟨rfl,H4⟩
    have HB4:=Lib.hid (HB3.out.trans (H4.out.mono HB.out.size))
    go_wp2_with fail
    go_ret2
    exact ⟨by rw[HE.out];rfl,HB4.out⟩
   ·have HE:Hid (PF=([],3)):=by
     show _=_
     rw[HR.out,if_neg (fun e=>e HW0.out),if_pos (by omega)]
    rw[show decide ((allP og rs).length<=65536)=false from decide_eq_false hz] at KP
    generalize allP og rs=LP at*
    go_wp2_with fail
    refine KP.out.mono ?_
    rintro e w3 ⟨rfl,H3⟩
    have HB3:=Lib.hid (HB.out.trans (H3.out.2.mono HB.out.size))
    go_wp2_with fail
    go_ret2
    exact ⟨by rw[HE.out];rfl,HB3.out⟩
end Go.Proofs.YtoppdmlmhigogaaGreatDoor
