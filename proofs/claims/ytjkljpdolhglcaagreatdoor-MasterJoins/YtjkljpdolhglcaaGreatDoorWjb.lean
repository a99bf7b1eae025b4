/- Texts laid together, in parts: Bld2 Txt Fld Ord Par Nr Ns Nt Nu Lx Pa Nv Bk Np Nxa Nxf Nxg Nxj Nxh Pb. -/
import Derived.Test.YtjkljpdolhglcaaGreatDoorWja
import Derived.Laws.AppendOwn
import Derived.Lib.Bytealg
import Derived.Lib.ConvBytes
import Derived.Lib.ParseIntBMem
import Derived.Lib.Hide
import Derived.Laws.Strings3
import Derived.Laws.Closers25
import Derived.Laws.Closers25b
import Derived.BigQuiet
import Derived.Deep.QuietTactic
import Derived.Lib.AppendZerosOnto
set_option maxRecDepth 100000
set_option maxHeartbeats 8000000
set_option linter.unusedVariables false
set_option linter.unusedSimpArgs false
namespace Go.Proofs.YtjkljpdolhglcaaGreatDoor
open Go.ChangeShapes Go.WideShapes Go.ChangeAt Go.RowKit
def GU(B:Nat)(w:World)(b:Nat)(bs:List Value):Prop:=
 ∃v,BB w b (.pointer (some ⟨b,0,none⟩)) v/\w.ownsRow B 5 1 v bs.length bs/\v.ownBlock≠some b
def GS(B:Nat)(w:World)(b:Nat)(bs:List Value):Prop:=
 (BB w b (.pointer none) (.slice none 0 0)/\bs=[])∨(GU B w b bs/\bs≠[])
theorem GS.fresh(w:World):GS w.heap.size (w.alloc (.cells #[.pointer none,.slice none 0 0] 66)) w.heap.size []:=
 .inl ⟨heap_alloc_new _ _,rfl⟩
theorem row_shape{B:Nat}{w:World}{e z:Nat}{v:Value}{n:Nat}{bs:List Value}(h:w.ownsRow B e z v n bs):∃ao c,v=.slice ao n c:=by
 rcases h.2 with ⟨rfl,rfl⟩|⟨g,cap,cur,rfl,_⟩
 ·exact ⟨none,0,rfl⟩
 ·exact ⟨_,_,rfl⟩
theorem row_set{B:Nat}{w:World}{b:Nat}{v:Value}{n:Nat}{bs:List Value}(h:w.ownsRow B 5 1 v n bs)(hne:v.ownBlock≠some b)(i:Nat)(x:Value):(w.setCell ⟨b,i,none⟩ x).ownsRow B 5 1 v n bs:=
 h.kept (row:=some b) ⟨rfl,rfl,rfl,by simp[World.setCell],fun k _ hk=>Below.heap_setCell _ _ _ _ (fun e=>hk (by simp[e]))⟩ (.inr hne)
theorem bcheck_any(B b:Nat)(bs:List Value)(w:World)(h:GS B w b bs)(hB:B<=b) :
  Calls Tryz.prog 39 #[.pointer (some ⟨b,0,none⟩)] w fun e w'=>e=.returned (.tuple #[])/\Hid (GU B w' b bs/\Below B w w'):=by
 rcases h with ⟨h1,rfl⟩|⟨⟨v,h1,h3,h4⟩,_⟩
 ·refine (check_fresh b _ w h1).mono ?_
  rintro e w' ⟨rfl,rfl⟩
  refine ⟨rfl,⟨.slice none 0 0,?_,World.ownsRow_nil _ _ _ _,by simp[Value.ownBlock]⟩,(Below.refl _ _).setCell hB _⟩
  have:=heap_set h1 0 (.pointer (some ⟨b,0,none⟩))
  simpa [BB] using this
 ·refine (check_used b v w h1).mono ?_
  rintro e w' ⟨rfl,rfl⟩
  exact ⟨rfl,⟨v,h1,h3,h4⟩,Below.refl _ _⟩
theorem wbyte(B b:Nat)(bs:List Value)(z:Int)(w:World)(h:GS B w b bs)(hB:B<=b)(hl:bs.length+1<=140737488355328) :
  Calls Tryz.prog 41 #[.pointer (some ⟨b,0,none⟩),.int .u8 z] w fun e w'=>e=.returned .nilIface/\Hid (GS B w' b (bs++[.int .u8 z])/\Below B w w'):=by
 have HG:Hid (GS B w b bs):=h
 clear h
 go_enter Tryz.func41,Tryz.ntmps41
 go_wp2_with fail
 refine (bcheck_any B b bs _ HG.out hB).mono ?_
 rintro e w1 ⟨rfl,H1⟩
 obtain ⟨v,h1,h2,h4⟩:=H1.out.1
 have HB1:Hid (Below B w w1):=H1.out.2
 have HB:Hid (BB w1 b (.pointer (some ⟨b,0,none⟩)) v/\w1.ownsRow B 5 1 v bs.length bs):=⟨h1,h2⟩
 have c1:=h1.c1
 have hlt:=h1.lt
 clear h1 h2 H1 HG
 obtain ⟨i5,hi,hz0,hz1,hz2⟩:=info_parts Tryz.info5
 have HI:Hid (Tryz.prog.info? 5=some i5/\i5.zero=some (.int .u8 0)/\i5.size=1/\i5.bytes=1):=⟨hi,hz0,hz1,hz2⟩
 clear hi hz0 hz1 hz2
 have HO:Hid ((w1.alloc (.cells #[.int .u8 z] 5)).ownsRow B 5 1 v bs.length bs):=HB.out.2.alloc _
 have HC:Hid (∀j u,([.int .u8 z]:List Value)[j]?=some u->(w1.alloc (.cells #[.int .u8 z] 5)).cell? ((⟨w1.heap.size,0,none⟩:Addr).add j)=some u):=by
  intro j u hu
  have hj:j=0:=by have:=(List.getElem?_eq_some_iff.1 hu).1;simp at this;omega
  subst hj
  simp at hu
  subst hu
  simp[go_sem,Addr.add]
 go_wp2_with (at_builtin;refine wpList_append_own _ rfl _ _ 46 rfl B 5 i5 (.int .u8 0) 1 1 Tryz.underlying46 HI.out.1 HI.out.2.1 HI.out.2.2.1 HI.out.2.2.2 rfl (by decide) v bs.length bs rfl HO.out ⟨w1.heap.size,0,none⟩ 1 1 [.int .u8 z] rfl rfl HC.out (by intro u hu;simp at hu;subst hu;rfl) (by simp only[maxLen];omega) (by omega) (by simp;omega) ?_;intro v' w2 hown2 hgr2 hnil;obtain ⟨ao,cc,rfl⟩:=row_shape hown2;have hbk:Hid (w2.heap[b]?=w1.heap[b]?):=(hgr2.block b (by simp;omega) (fun e=>h4 e.symm)).trans (Below.heap_alloc _ _ b hlt);have d1:=(HB.out.1.same hbk.out).c1;have d2:=(HB.out.1.same hbk.out).fz 1;have HG2:Hid ((w1.alloc (.cells #[.int .u8 z] 5)).grownBy w2 v.ownBlock/\w2.ownsRow B 5 1 (.slice ao (bs.length+1) cc) (bs.length+1) (bs++[.int .u8 z])):=⟨hgr2,hown2⟩;clear hown2 hgr2 hnil)
 go_ret
 have hb2:=HB.out.1.same hbk.out
 have hrow:∀g,v.ownBlock=some g->B<=g:=fun g hg=>(HB.out.2.lt g hg).1
 have hbel:Below B w1 w2:=((Below.refl B w1).alloc (by omega) _).grown HG2.out.1 (by simp;omega) hrow
 have hne:(Value.slice ao (bs.length+1) cc).ownBlock≠some b:=by
  intro e
  obtain ⟨_,hc|⟨g,cap,cur,hv,_,hg,_⟩⟩:=HG2.out.2
  ·rw[hc.1] at e;simp[Value.ownBlock] at e
  ·rw[hv] at e
   have e2:g=b:=by simpa [Value.ownBlock] using e
   rw[e2] at hg
   have hb3:w2.heap[b]?=_:=hb2
   rw[hb3] at hg
   injection hg with hg
   injection hg with _ hg _
   exact absurd hg (by decide)
 refine ⟨rfl,.inr ⟨⟨.slice ao (bs.length+1) cc,?_,?_,hne⟩,by simp⟩,HB1.out.trans (hbel.setCell hB _)⟩
 ·have:=heap_set hb2 1 (.slice ao (bs.length+1) cc)
  simpa [BB] using this
 ·have:=row_set HG2.out.2 hne 1 (.slice ao (bs.length+1) cc)
  simpa using this
theorem wstring(B b:Nat)(l:List UInt8)(w:World)(h:GS B w b (Lib.byteCells l))(hl:l.length<=9223372036854775807) :
  Calls Tryz.prog 22 #[.pointer (some ⟨b,0,none⟩)] w fun e w'=>e=.returned (.string ⟨l.toArray⟩)/\Hid (Below B w w'):=by
 rcases h with ⟨h1,h0⟩|⟨⟨v,h1,h2,h4⟩,hne⟩
 ·have hl0:l=[]:=by
   have:=congrArg List.length h0
   rw[Lib.byteCells_length] at this
   exact List.eq_nil_of_length_eq_zero this
  subst hl0
  have c1:=h1.c1
  have s1:∀(W:World) (ts:Array TypeId) (ty:TypeId),(Builtin.unsafeSliceData_ ts ty #[.slice none 0 0]).run Tryz.prog W=.ok (.pointer none) W:=fun W ts ty=>Lib.run_unsafeSliceData_nil W ts ty 0 0
  have s2:∀(W:World) (ty:TypeId),(Builtin.unsafeString_ #[103,3] ty #[.pointer none,.int .i64 0]).run Tryz.prog W=.ok (.string .empty) W:=fun W ty=>Lib.run_unsafeString_none W 103 3 ty none
  clear h1 h0
  go_enter Tryz.func22,Tryz.ntmps22
  go_wp2_with fail
  go_region_held3 (fun W=>W.cell? ⟨b,1,none⟩=some (.slice none 0 0)) (go_keep) (fail)
  go_wp2
  go_ret
  exact ⟨rfl,(Below.refl _ _).drew⟩
 ·refine bstring B b l.length l w (.inr ?_) rfl hl
  have hlen:=Lib.byteCells_length l
  have hpos:0<(Lib.byteCells l).length:=List.length_pos_iff.2 hne
  rcases h2.2 with ⟨_,h0⟩|⟨g,cap,cur,rfl,hBg,hg,hn,hm,hs,hx⟩
  ·omega
  ·exact ⟨g,cap,h1,h2,by omega,fun e=>h4 (by rw[e];rfl),(h2.lt g rfl).2,by omega⟩
def spc(c:Int):Bool:=c == 46 || c == 92 || c == 34 || c == 59 || c == 40 || c == 41 || c == 64 || c == 36
def wst(c:Int):Int:=if c<33∨126<c then 2 else if spc c then 1 else 0
def tx1(c:Int):List Int:=if c<33∨126<c then [92,48+c / 100,48+c / 10 % 10,48+c % 10] else if spc c then [92,c] else [c]
def tx(l:List Int):List Int:=l.flatMap tx1
theorem tx_snoc(l:List Int)(c:Int):tx (l++[c])=tx l++tx1 c:=by simp[tx]
theorem tx1_len(c:Int):(tx1 c).length<=4/\1<=(tx1 c).length:=by unfold tx1;split <;> (try split) <;> simp
theorem tx_len(l:List Int):(tx l).length<=4*l.length:=by
 induction l with
 |nil=>simp[tx]
 |cons c l ih=>
  have:=tx1_len c
  simp only[tx,List.flatMap_cons,List.length_append,List.length_cons] at ih ⊢
  omega
theorem tx1_bd(c:Int)(h:0<=c/\c<=255):∀z∈tx1 c,0<=z/\z<=255:=by
 intro z hz
 unfold tx1 at hz
 split at hz
 ·simp only[List.mem_cons,List.mem_nil_iff,or_false] at hz
  omega
 ·split at hz
  ·simp only[List.mem_cons,List.mem_nil_iff,or_false] at hz
   omega
  ·simp only[List.mem_cons,List.mem_nil_iff,or_false] at hz
   omega
theorem tx_bd(l:List Int)(h:∀z∈l,0<=z/\z<=255):∀z∈tx l,0<=z/\z<=255:=by
 intro z hz
 simp only[tx,List.mem_flatMap] at hz
 obtain ⟨c,hc,hz⟩:=hz
 exact tx1_bd c (h c hc) z hz
theorem spc_cases(c:Int):(c=46∨c=92∨c=34∨c=59∨c=40∨c=41∨c=64∨c=36)∨(spc c=false/\(c == 46)=false/\(c == 92)=false/\(c == 34)=false/\(c == 59)=false/\(c == 40)=false/\(c == 41)=false/\(c == 64)=false/\(c == 36)=false/\(c<40∨41<c)):=by
 by_cases h:c=46∨c=92∨c=34∨c=59∨c=40∨c=41∨c=64∨c=36
 ·exact .inl h
 ·right
  have e1:¬ c=46:=by omega
  have e2:¬ c=92:=by omega
  have e3:¬ c=34:=by omega
  have e4:¬ c=59:=by omega
  have e5:¬ c=40:=by omega
  have e6:¬ c=41:=by omega
  have e7:¬ c=64:=by omega
  have e8:¬ c=36:=by omega
  simp[spc,e1,e2,e3,e4,e5,e6,e7,e8]
  omega
theorem written_any(c:Int)(w:World)(h:0<=c/\c<=255):Calls Tryz.prog 40 #[.int .u8 c] w fun e w'=>e=.returned (.int .i64 (wst c))/\w'=w:=by
 by_cases hu:c<33∨126<c
 ·have HW:Hid (wst c=2):=by show _=_;unfold wst;rw[if_pos hu]
  rcases hu with hu|hu
  all_goals
   go_enter Tryz.func40,Tryz.ntmps40
   go_wp2
   go_ret
   exact ⟨by rw[HW.out];rfl,rfl⟩
 ·have h1:¬ c<33:=by omega
  have h2:¬ 126<c:=by omega
  have hs:=spc_cases c
  have HW:Hid (wst c=if spc c then 1 else 0):=by show _=_;unfold wst;rw[if_neg hu]
  clear hu
  rcases hs with hs|⟨hs,e1,e2,e3,e4,e5,e6,e7,e8,hor⟩
  ·rcases hs with rfl|rfl|rfl|rfl|rfl|rfl|rfl|rfl
   all_goals
    clear HW
    go_enter Tryz.func40,Tryz.ntmps40
    go_wp2
    go_ret
    exact ⟨rfl,rfl⟩
  ·rw[hs] at HW
   clear hs e5 e6
   rcases hor with ho|ho
   all_goals
    go_enter Tryz.func40,Tryz.ntmps40
    go_wp2
    go_ret
    exact ⟨by rw[HW.out];rfl,rfl⟩
theorem bc_txt(l:List Int)(h:∀z∈l,0<=z/\z<=255):Lib.byteCells (txt l)=l.map (Value.int .u8):=by
 unfold Lib.byteCells txt
 rw[List.map_map]
 apply List.map_congr_left
 intro z hz
 have:=h z hz
 simp
 omega
theorem nums_all'(s:ByteArray):∀z∈nums s,0<=z/\z<=255:=by
 intro z hz
 simp only[nums,List.mem_map] at hz
 obtain ⟨b,_,rfl⟩:=hz
 have:=b.toNat_lt
 omega
theorem text_any(s:ByteArray)(w:World)(hs:s.size<=35184372088000) :
  Calls Tryz.prog 21 #[.string s] w fun e w'=>e=.returned (.string ⟨(txt (tx (nums s))).toArray⟩)/\Hid (Below w.heap.size w w'):=by
 have H0:Hid (GS w.heap.size (w.alloc (.cells #[.pointer none,.slice none 0 0] 66)) w.heap.size []/\Below w.heap.size w (w.alloc (.cells #[.pointer none,.slice none 0 0] 66))):=⟨GS.fresh w,(Below.refl _ _).alloc (Nat.le_refl _) _⟩
 go_enter Tryz.func21,Tryz.ntmps21
 go_wp2_with fail
 go_loopw [8] (fun x wr=>∃k:Nat,k<=s.size/\x=.int .i64 k/\Hid (GS w.heap.size wr w.heap.size ((tx ((nums s).take k)).map (Value.int .u8))/\Below w.heap.size w wr)) (fun x _=>s.size - (intOf x).toNat)
 case atStart=>exact ⟨0,Nat.zero_le _,rfl,H0⟩
 case round=>
  obtain ⟨k,hk,rfl,HW⟩:=hrel
  clear H0
  by_cases hlt:k<s.size
  ·have hlt':(k:Int)<(s.size:Int):=by omega
   have hbd:=nums_bd s k
   have HT:Hid ((nums s).take (k+1)=(nums s).take k++[(nums s).getD k 0]):=take_snoc _ _ (by rw[nums_len];exact hlt)
   rw[nums_at s k hlt] at hbd HT
   have hln:(tx ((nums s).take k)).length<=4*k:=by
    have h1:=tx_len ((nums s).take k)
    have h2:((nums s).take k).length<=k:=by simp;omega
    omega
   have HN:Hid (tx ((nums s).take (k+1))=tx ((nums s).take k)++tx1 (s[k].toNat:Int)):=by show _=_;rw[HT.out,tx_snoc]
   have HM:Hid (((tx ((nums s).take k)).map (Value.int .u8)).length=(tx ((nums s).take k)).length):=(show _=_ by simp)
   have HWR:Hid (∀W,Calls Tryz.prog 40 #[.int .u8 (s[k].toNat:Int)] W fun e w'=>e=.returned (.int .i64 (wst (s[k].toNat:Int)))/\w'=W):=fun W=>written_any _ W hbd
   by_cases hu:(s[k].toNat:Int)<33∨126<(s[k].toNat:Int)
   ·have hw:wst (s[k].toNat:Int)=2:=by unfold wst;rw[if_pos hu]
    have HX:Hid (tx1 (s[k].toNat:Int)=[92,48+(s[k].toNat:Int) / 100,48+(s[k].toNat:Int) / 10 % 10,48+(s[k].toNat:Int) % 10]):=by show _=_;unfold tx1;rw[if_pos hu]
    rw[hw] at HWR
    clear hu hw
    go_wp2_with fail
    refine (HWR.out _).mono ?_
    rintro e w1 ⟨rfl,rfl⟩
    go_wp2_with fail
    refine (wbyte w.heap.size w.heap.size _ 92 _ HW.out.1 (Nat.le_refl _) (by rw[HM.out];omega)).mono ?_
    rintro e w2 ⟨rfl,H2⟩
    go_wp2_with fail
    refine (wbyte w.heap.size w.heap.size _ _ _ H2.out.1 (Nat.le_refl _) (by simp only[List.length_append,List.length_singleton,HM.out];omega)).mono ?_
    rintro e w3 ⟨rfl,H3⟩
    go_wp2_with fail
    refine (wbyte w.heap.size w.heap.size _ _ _ H3.out.1 (Nat.le_refl _) (by simp only[List.length_append,List.length_singleton,HM.out];omega)).mono ?_
    rintro e w4 ⟨rfl,H4⟩
    go_wp2_with fail
    refine (wbyte w.heap.size w.heap.size _ _ _ H4.out.1 (Nat.le_refl _) (by simp only[List.length_append,List.length_singleton,HM.out];omega)).mono ?_
    rintro e w5 ⟨rfl,H5⟩
    go_wp2
    refine ⟨⟨k+1,by omega,by go_num,?_,((HW.out.2.trans H2.out.2).trans H3.out.2).trans (H4.out.2.trans H5.out.2)⟩,by simp[intOf];omega⟩
    rw[HN.out,HX.out,List.map_append]
    simpa only[List.map_cons,List.map_nil,List.append_assoc,List.cons_append,List.nil_append] using H5.out.1
   ·by_cases hp:spc (s[k].toNat:Int)=true
    ·have hw:wst (s[k].toNat:Int)=1:=by unfold wst;rw[if_neg hu,if_pos hp]
     have HX:Hid (tx1 (s[k].toNat:Int)=[92,(s[k].toNat:Int)]):=by show _=_;unfold tx1;rw[if_neg hu,if_pos hp]
     rw[hw] at HWR
     clear hu hw hp
     go_wp2_with fail
     refine (HWR.out _).mono ?_
     rintro e w1 ⟨rfl,rfl⟩
     go_wp2_with fail
     refine (wbyte w.heap.size w.heap.size _ 92 _ HW.out.1 (Nat.le_refl _) (by rw[HM.out];omega)).mono ?_
     rintro e w2 ⟨rfl,H2⟩
     go_wp2_with fail
     refine (wbyte w.heap.size w.heap.size _ _ _ H2.out.1 (Nat.le_refl _) (by simp only[List.length_append,List.length_singleton,HM.out];omega)).mono ?_
     rintro e w3 ⟨rfl,H3⟩
     go_wp2
     refine ⟨⟨k+1,by omega,by go_num,?_,(HW.out.2.trans H2.out.2).trans H3.out.2⟩,by simp[intOf];omega⟩
     rw[HN.out,HX.out,List.map_append]
     simpa only[List.map_cons,List.map_nil,List.append_assoc,List.cons_append,List.nil_append] using H3.out.1
    ·have hp':spc (s[k].toNat:Int)=false:=by simpa using hp
     have hw:wst (s[k].toNat:Int)=0:=by unfold wst;rw[if_neg hu,hp'];rfl
     have HX:Hid (tx1 (s[k].toNat:Int)=[(s[k].toNat:Int)]):=by show _=_;unfold tx1;rw[if_neg hu,hp'];rfl
     rw[hw] at HWR
     clear hu hw hp hp'
     go_wp2_with fail
     refine (HWR.out _).mono ?_
     rintro e w1 ⟨rfl,rfl⟩
     go_wp2_with fail
     refine (wbyte w.heap.size w.heap.size _ _ _ HW.out.1 (Nat.le_refl _) (by rw[HM.out];omega)).mono ?_
     rintro e w2 ⟨rfl,H2⟩
     go_wp2
     refine ⟨⟨k+1,by omega,by go_num,?_,HW.out.2.trans H2.out.2⟩,by simp[intOf];omega⟩
     rw[HN.out,HX.out,List.map_append]
     simpa only[List.map_cons,List.map_nil,List.append_assoc,List.cons_append,List.nil_append] using H2.out.1
  ·have hge:(s.size:Int)<=(k:Int):=by omega
   have ek:(nums s).take k=nums s:=List.take_of_length_le (by rw[nums_len];omega)
   have hg:=HW.out.1
   rw[ek,<- bc_txt _ (tx_bd _ (nums_all' s))] at hg
   have hl:(txt (tx (nums s))).length<=9223372036854775807:=by
    have:=tx_len (nums s)
    rw[nums_len] at this
    rw[txt_len];omega
   have HG:Hid (GS w.heap.size wr w.heap.size (Lib.byteCells (txt (tx (nums s))))):=hg
   clear hg ek
   generalize hLL:txt (tx (nums s))=L at*
   have HLL:Hid (txt (tx (nums s))=L):=hLL
   clear hLL
   go_wp2_with fail
   refine (wstring w.heap.size w.heap.size L _ HG.out hl).mono ?_
   rintro e w2 ⟨rfl,H2⟩
   go_wp2
   go_ret
   exact ⟨by rw[HLL.out];rfl,HW.out.2.trans H2.out⟩
def fz(z:Int):Int:=if 65<=z/\z<=90 then z+32 else z
theorem fz_bd(z:Int)(h:0<=z/\z<=255):0<=fz z/\fz z<=255:=by unfold fz;split <;> omega
def Blk2(w:World)(g:Nat)(zs:List Int):Prop:=
 w.heap[g]?=some (.cells (zs.map (Value.int .u8)).toArray 5 (zs.length,zs.length+1))/\∀z∈zs,0<=z/\z<=255
theorem Blk2.lt{w:World}{g:Nat}{zs:List Int}(h:Blk2 w g zs):g<w.heap.size:=(Array.getElem?_eq_some_iff.1 h.1).1
theorem Blk2.cell{w:World}{g:Nat}{zs:List Int}(h:Blk2 w g zs)(i:Nat)(hi:i<zs.length):w.cell? ⟨g,i,none⟩=some (.int .u8 (zs.getD i 0)):=by
 simp[World.cell?,h.1,hi]
theorem Blk2.frozen{w:World}{g:Nat}{zs:List Int}(h:Blk2 w g zs)(i:Nat)(hi:i<zs.length):w.frozen? ⟨g,i,none⟩=false:=by
 simp[World.frozen?,h.1];omega
theorem Blk2.rd{w:World}{g:Nat}{zs:List Int}(h:Blk2 w g zs)(n:Nat):Rd w (some ⟨g,0,none⟩) (zs.take n):=by
 refine ⟨.inr ⟨g,0,rfl,h.lt,fun i hi=>?_⟩,fun z hz=>h.2 z (List.mem_of_mem_take hz)⟩
 rw[Nat.zero_add,h.cell i (by simp at hi;omega)]
 have:i<n:=by simp at hi;omega
 simp[List.getD_eq_getElem?_getD,this]
theorem Blk2.stored{w:World}{g:Nat}{zs:List Int}(h:Blk2 w g zs)(i:Nat)(z:Int)(hz:0<=z/\z<=255):Blk2 (w.setCell ⟨g,i,none⟩ (.int .u8 z)) g (zs.set i z):=by
 refine ⟨?_,fun x hx=>?_⟩
 ·have hg:=h.lt
  have h1:=h.1
  have e:w.heap[g]=.cells (zs.map (Value.int .u8)).toArray 5 (zs.length,zs.length+1):=by
   rw[Array.getElem?_eq_getElem hg] at h1;exact Option.some.inj h1
  simp[World.setCell,hg,Array.getElem_modify,e,List.map_set]
 ·rcases List.mem_or_eq_of_mem_set hx with hx|hx
  ·exact h.2 x hx
  ·subst hx;exact hz
theorem bytesRow_nums(s:ByteArray)(c:Nat):bytesRow s c=((nums s++List.replicate (c - s.size) 0).map (Value.int .u8)).toArray:=by
 apply Array.ext'
 simp[bytesRow,nums]
theorem nums_bds(s:ByteArray):∀z∈nums s,0<=z/\z<=255:=by
 intro z hz
 simp only[nums,List.mem_map] at hz
 obtain ⟨b,_,rfl⟩:=hz
 have:=b.toNat_lt
 omega
theorem conv_new(s:ByteArray)(w:World):∃zs:List Int,(convert 9 46 (.string s)).run Tryz.prog w=.ok (.slice (some ⟨w.heap.size,0,none⟩) s.size zs.length) (w.drew.alloc (.cells (zs.map (Value.int .u8)).toArray 5 (zs.length,zs.length+1)))/\
  Blk2 (w.drew.alloc (.cells (zs.map (Value.int .u8)).toArray 5 (zs.length,zs.length+1))) w.heap.size zs/\zs.take s.size=nums s/\s.size<=zs.length:=by
 have h:=run_bytes_of_string (P:=Tryz.prog) w 9 46 5 s Tryz.underlying9 Tryz.underlying46 Tryz.underlying5
 have hge:=grownCap_ge w s.size 0 5
 have hl:(nums s++List.replicate (grownCap w s.size 0 5 - s.size) 0).length=grownCap w s.size 0 5:=by
  rw[List.length_append,nums_len,List.length_replicate];omega
 refine ⟨nums s++List.replicate (grownCap w s.size 0 5 - s.size) 0,?_,⟨heap_alloc_new w.drew _,?_⟩,?_,by rw[hl];exact hge⟩
 ·rw[h,bytesRow_nums,hl]
  simp only[List.size_toArray,List.length_map,hl]
 ·intro z hz
  simp only[List.mem_append,List.mem_replicate] at hz
  rcases hz with hz|⟨_,rfl⟩
  ·exact nums_bds s z hz
  ·omega
 ·rw[List.take_append_of_le_length (by rw[nums_len];exact Nat.le_refl _),List.take_of_length_le (by rw[nums_len];exact Nat.le_refl _)]
def FSt(l zs:List Int)(k:Nat):Prop:=l.length<=zs.length/\∀i,i<l.length->zs.getD i 0=if i<k then fz (l.getD i 0) else l.getD i 0
theorem FSt.done{l zs:List Int}(h:FSt l zs l.length):zs.take l.length=l.map fz:=by
 apply List.ext_getElem
 ·simp[h.1]
 ·intro i h1 h2
  have hi:i<l.length:=by simpa using h2
  have:=h.2 i hi
  rw[if_pos hi] at this
  simp[List.getD_eq_getElem?_getD,List.getElem?_eq_getElem hi,List.getElem?_eq_getElem (show i<zs.length by have:=h.1;omega)] at this
  simp[this]
theorem FSt.zero{l zs:List Int}(h:zs.take l.length=l)(hl:l.length<=zs.length):FSt l zs 0:=by
 refine ⟨hl,fun i hi=>?_⟩
 rw[if_neg (by omega)]
 conv=>rhs;rw[<- h]
 simp[List.getD_eq_getElem?_getD,List.getElem?_take,hi]
theorem FSt.same{l zs:List Int}{k:Nat}(h:FSt l zs k)(hf:fz (l.getD k 0)=l.getD k 0):FSt l zs (k+1):=by
 refine ⟨h.1,fun i hi=>?_⟩
 rw[h.2 i hi]
 by_cases e:i=k
 ·subst e;rw[if_neg (by omega),if_pos (by omega),hf]
 ·by_cases e2:i<k
  ·rw[if_pos e2,if_pos (by omega)]
  ·rw[if_neg e2,if_neg (by omega)]
theorem FSt.set{l zs:List Int}{k:Nat}(h:FSt l zs k)(hk:k<l.length):FSt l (zs.set k (fz (l.getD k 0))) (k+1):=by
 refine ⟨by rw[List.length_set];exact h.1,fun i hi=>?_⟩
 have hl:=h.1
 by_cases e:i=k
 ·subst e
  rw[if_pos (by omega)]
  simp[List.getD_eq_getElem?_getD,List.getElem?_set,show i<zs.length by omega]
 ·have:(zs.set k (fz (l.getD k 0))).getD i 0=zs.getD i 0:=by
   simp[List.getD_eq_getElem?_getD,List.getElem?_set,show ¬ k=i by omega]
  rw[this,h.2 i hi]
  by_cases e2:i<k
  ·rw[if_pos e2,if_pos (by omega)]
  ·rw[if_neg e2,if_neg (by omega)]
theorem nums_txt(l:List Int)(h:∀z∈l,0<=z/\z<=255):nums ⟨(txt l).toArray⟩=l:=by
 unfold nums txt
 simp only[List.map_map]
 conv=>rhs;rw[<- List.map_id l]
 apply List.map_congr_left
 intro z hz
 have:=h z hz
 simp
 omega
def fl(s:ByteArray):List Int:=(nums s).map fz
theorem ba_loop(s:ByteArray)(n:Nat):∀i r,s.size - i=n->ByteArray.toList.loop s i r=r.reverse++s.data.toList.drop i:=by
 induction n with
 |zero=>
  intro i r h
  unfold ByteArray.toList.loop
  rw[if_neg (by omega),List.drop_eq_nil_of_le (by simp;omega),List.append_nil]
 |succ n ih=>
  intro i r h
  unfold ByteArray.toList.loop
  have hi:i<s.data.toList.length:=by simp;omega
  rw[if_pos (by omega),ih (i+1) _ (by omega),List.reverse_cons,List.append_assoc,List.drop_eq_getElem_cons hi]
  congr 1
  show (s.data[i]!::s.data.toList.drop (i+1))=_
  have h2:i<s.data.size:=by simpa using hi
  rw[getElem!_pos s.data i h2];rfl
theorem ba_toList(s:ByteArray):s.toList=s.data.toList:=by
 unfold ByteArray.toList
 rw[ba_loop s _ 0 [] rfl]
 simp
theorem ba_inj{a b:ByteArray}(h:a.toList=b.toList):a=b:=by
 rw[ba_toList,ba_toList] at h
 cases a;cases b
 simp at h
 rw[h]
theorem getD_bd(l:List Int)(h:∀z∈l,0<=z/\z<=255)(i:Nat):0<=l.getD i 0/\l.getD i 0<=255:=by
 by_cases hi:i<l.length
 ·have:=h (l.getD i 0) (by rw[List.getD_eq_getElem?_getD,List.getElem?_eq_getElem hi];simp)
  exact this
 ·rw[List.getD_eq_getElem?_getD,List.getElem?_eq_none (by omega)];simp
theorem num3_bd(l:List Int):0<=(num3 l).1/\(num3 l).1<=255/\0<=(num3 l).2/\(num3 l).2<=l.length:=by
 unfold num3
 split
 ·simp
 ·split
  ·rename_i h1 h2
   simp only[Bool.and_eq_true,dgt_iff,decide_eq_true_eq] at h2
   simp only
   unfold v3 at*
   omega
  ·simp
theorem esc_bd(l:List Int)(h:∀z∈l,0<=z/\z<=255):0<=(esc l).1/\(esc l).1<=255/\0<=(esc l).2/\(esc l).2<=l.length:=by
 unfold esc
 split
 ·simp
 ·split
  ·exact num3_bd l
  ·split
   ·have:=getD_bd l h 1
    simp only
    omega
   ·simp
theorem fr_bd(l:List Int)(h:∀z∈l,0<=z/\z<=255)(hl:0<l.length):0<=(fr l).1/\(fr l).1<=255/\0<=(fr l).2/\(fr l).2<=l.length:=by
 unfold fr
 split
 ·simp
 ·split
  ·exact esc_bd l h
  ·have:=getD_bd l h 0
   simp only
   omega
theorem nums_all(s:ByteArray):∀z∈nums s,0<=z/\z<=255:=by
 intro z hz
 simp only[nums,List.mem_map] at hz
 obtain ⟨b,_,rfl⟩:=hz
 have:=b.toNat_lt
 omega
def go(l:List Int)(p:Nat)(out:List Int):Option (List Int × Nat):=
 if h:p<l.length/\l.getD p 0≠46 then
  if hn:(fr (l.drop p)).2<=0 then none
  else go l (p+(fr (l.drop p)).2.toNat) (out++[(fr (l.drop p)).1])
 else some (out,p)
termination_by l.length - p
decreasing_by omega
def pres(l:List Int):List Int × Int × Int:=
 match go l 0 [] with
 |none=>([],0,120)
 |some (out,p)=>if 1<=out.length/\out.length<=63 then (out,(p:Int),0) else ([],0,4)
def chk(n:Nat):Int:=if 1<=n/\n<=63 then 0 else 4
theorem chk_any(s:ByteArray)(w:World)(hs:s.size<=9223372036854775807) :
  Calls Tryz.prog 31 #[.string s] w fun e w'=>e=.returned (.int .i64 (chk s.size))/\w'=w:=by
 by_cases h:1<=s.size/\s.size<=63
 ·have h1:¬ (s.size:Int)<1:=by omega
  have h2:¬ (63:Int)<(s.size:Int):=by omega
  have HE:Hid (chk s.size=0):=by show _=_;unfold chk;rw[if_pos h]
  clear h
  go_enter Tryz.func31,Tryz.ntmps31
  go_wp2
  go_ret
  exact ⟨by rw[HE.out];rfl,rfl⟩
 ·have HE:Hid (chk s.size=4):=by show _=_;unfold chk;rw[if_neg h]
  have ho:(s.size:Int)<1∨(63:Int)<(s.size:Int):=by omega
  clear h
  rcases ho with ho|ho
  all_goals
   go_enter Tryz.func31,Tryz.ntmps31
   go_wp2
   go_ret
   exact ⟨by rw[HE.out];rfl,rfl⟩
theorem nums_extract(s:ByteArray)(p:Nat):nums (s.extract p s.size)=(nums s).drop p:=by
 simp only[nums,ByteArray.data_extract]
 rw[Array.toList_extract,List.extract_eq_take_drop,<- List.map_drop,List.take_of_length_le (by simp)]
theorem txt_size(l:List Int):(⟨(txt l).toArray⟩:ByteArray).size=l.length:=by
 show (txt l).toArray.size=_
 simp[txt]
theorem go_stop(l:List Int)(p:Nat)(out:List Int)(h:¬ (p<l.length/\l.getD p 0≠46)):go l p out=some (out,p):=by
 rw[go,dif_neg h]
theorem go_bad(l:List Int)(p:Nat)(out:List Int)(h:p<l.length/\l.getD p 0≠46)(hn:(fr (l.drop p)).2<=0):go l p out=none:=by
 rw[go,dif_pos h,dif_pos hn]
theorem go_step(l:List Int)(p:Nat)(out:List Int)(h:p<l.length/\l.getD p 0≠46)(hn:¬ (fr (l.drop p)).2<=0):go l p out=go l (p+(fr (l.drop p)).2.toNat) (out++[(fr (l.drop p)).1]):=by
 rw[go,dif_pos h,dif_neg hn]
def PPost(s:ByteArray)(w:World)(e:Ending)(w':World):Prop:=
 e=.returned (.tuple #[.string ⟨(txt (pres (nums s)).1).toArray⟩,.int .i64 (pres (nums s)).2.1,.int .i64 (pres (nums s)).2.2])/\Hid (Below w.heap.size w w')
theorem pres_ok{l out:List Int}{p:Nat}(h:go l 0 []=some (out,p))(hc:chk out.length=0):pres l=(out,(p:Int),0):=by
 unfold pres
 rw[h]
 simp only
 unfold chk at hc
 split at hc
 ·rename_i h1;rw[if_pos h1]
 ·cases hc
theorem pres_no{l out:List Int}{p:Nat}(h:go l 0 []=some (out,p))(hc:¬ chk out.length=0):pres l=([],0,4)/\chk out.length=4:=by
 unfold pres
 rw[h]
 simp only
 unfold chk at hc ⊢
 split at hc
 ·exact absurd rfl hc
 ·rename_i h1;rw[if_neg h1,if_neg h1];exact ⟨rfl,rfl⟩
theorem pres_bad{l:List Int}(h:go l 0 []=none):pres l=([],0,120):=by
 unfold pres
 rw[h]
theorem parse_any(s:ByteArray)(w:World)(hs:s.size<=140737488355000):Calls Tryz.prog 128 #[.string s] w (PPost s w):=by
 go_enter Tryz.func128,Tryz.ntmps128
 go_wp2_with fail
 go_loopw [5,6] (fun v x wr=>∃(p:Nat) (out:List Int),p<=s.size/\x=.int .i64 p/\Hid (go (nums s) 0 []=go (nums s) p out/\out.length<=p)/\Hid (∃ys,Own w.heap.size wr v out.length ys/\ys.take out.length=out)/\Hid (Below w.heap.size w wr)) (fun _ x _=>s.size - (intOf x).toNat)
 case atStart=>exact ⟨0,[],Nat.zero_le _,rfl,⟨rfl,Nat.le_refl _⟩,⟨[],.inl ⟨rfl,rfl,rfl⟩,rfl⟩,Below.refl _ _⟩
 case round=>
  obtain ⟨p,out,hp,rfl,HG,HW,HB⟩:=hrel
  by_cases hlt:p<s.size/\(nums s).getD p 0≠46
  ·obtain ⟨hlt,hd⟩:=hlt
   have HC:Hid (p<(nums s).length/\(nums s).getD p 0≠46):=⟨by rw[nums_len];exact hlt,hd⟩
   rw[nums_at s p hlt] at hd
   have hd':((s[p].toNat:Int) != 46)=true:=bne_iff_ne.2 hd
   have hlt':(p:Int)<(s.size:Int):=by omega
   clear hd
   have hol:out.length<=p:=HG.out.2
   have HF:Hid (∀W,Calls Tryz.prog 145 #[.string (s.extract p s.size)] W fun e w'=>e=.returned (.tuple #[.int .u8 (fr ((nums s).drop p)).1,.int .i64 (fr ((nums s).drop p)).2])/\w'=W):=by
    intro W
    have:=fr_any (s.extract p s.size) W (by simp;omega) (by simp;omega)
    rw[nums_extract] at this
    exact this
   have hfb:=fr_bd ((nums s).drop p) (fun z hz=>nums_all s z (List.mem_of_mem_drop hz)) (by rw[List.length_drop,nums_len];omega)
   rw[List.length_drop,nums_len] at hfb
   have HS1:Hid ((fr ((nums s).drop p)).2<=0->go (nums s) 0 []=none):=fun h=>HG.out.1.trans (go_bad _ _ _ HC.out h)
   have HS2:Hid (¬ (fr ((nums s).drop p)).2<=0->go (nums s) 0 []=go (nums s) (p+(fr ((nums s).drop p)).2.toNat) (out++[(fr ((nums s).drop p)).1])):=fun h=>HG.out.1.trans (go_step _ _ _ HC.out h)
   generalize (fr ((nums s).drop p)).1=c at*
   generalize (fr ((nums s).drop p)).2=n at*
   go_wp2_with fail
   refine (HF.out _).mono ?_
   rintro e w1 ⟨rfl,rfl⟩
   by_cases hn:n=0
   ·subst hn
    go_wp2
    go_ret3
    exact ⟨by rw[pres_bad (HS1.out (by omega))];rfl,HB.out⟩
   ·have hn':(n == 0)=false:=by simp[hn]
    obtain ⟨ys,hO,hT⟩:=HW.out
    have hnb:Below w1.heap.size w1 (w1.alloc (.cells #[.int .u8 c] 5)):=(Below.refl _ _).alloc (Nat.le_refl _) _
    have HO2:Hid (Own w.heap.size (w1.alloc (.cells #[.int .u8 c] 5)) u5 out.length ys/\ys.take out.length=out):=⟨hO.below hnb,hT⟩
    have HR2:Hid (Rd (w1.alloc (.cells #[.int .u8 c] 5)) (some ⟨w1.heap.size,0,none⟩) [c]):=new_rd w1 c (by omega)
    have HNB:Hid (Below w1.heap.size w1 (w1.alloc (.cells #[.int .u8 c] 5))):=hnb
    clear hO hT hnb
    go_wp2_with (at_builtin;refine wpList_append_blk _ rfl _ _ rfl w.heap.size _ out.length ys rfl HO2.out.1 (some ⟨w1.heap.size,0,none⟩) 1 1 [c] rfl HR2.out rfl (by simp) (by omega) (Nat.le_trans HB.out.size HNB.out.size) ?_;intro v' w' ys' hO' hT' hG')
    have hrow:=HO2.out.1.lt
    refine ⟨⟨p+n.toNat,out++[c],by omega,congrArg _ (by omega),⟨HS2.out (by omega),by simp;omega⟩,⟨ys',?_,?_⟩,?_⟩,by simp[intOf];omega⟩
    ·rw[List.length_append];exact hO'.out
    ·rw[List.length_append];exact hT'.out.trans (by rw[HO2.out.2])
    ·exact (HB.out.trans (HNB.out.mono HB.out.size)).grown hG' (Nat.le_trans HB.out.size HNB.out.size) hrow
  ·have HS:Hid (go (nums s) 0 []=some (out,p)):=HG.out.1.trans (go_stop _ _ _ (by rw[nums_len];exact hlt))
   obtain ⟨ys,hO,hT⟩:=HW.out
   obtain ⟨ao,rfl,hoa⟩:=hO.addr
   have hrd:=hoa.rdTake out.length
   rw[hT] at hrd
   have hcv:=conv_rd ao out.length ys.length out wr hrd rfl
   have HK:Hid (∀W,Calls Tryz.prog 31 #[.string ⟨(txt out).toArray⟩] W fun e w'=>e=.returned (.int .i64 (chk out.length))/\w'=W):=by
    intro W
    have:=chk_any ⟨(txt out).toArray⟩ W (by rw[txt_size];have:=HG.out.2;omega)
    rw[txt_size] at this
    exact this
   clear hO hT hoa hrd
   have HX:Hid (chk out.length=0->pres (nums s)=(out,(p:Int),0)):=fun h=>pres_ok HS.out h
   have HY:Hid (¬ chk out.length=0->pres (nums s)=([],0,4)/\chk out.length=4):=fun h=>pres_no HS.out h
   generalize chk out.length=k at*
   have hor:(s.size:Int)<=(p:Int)∨(∃h:p<s.size,(s[p].toNat:Int)=46):=by
    by_cases h:p<s.size
    ·right
     refine ⟨h,?_⟩
     rw[<- nums_at s p h]
     exact Classical.byContradiction fun hne=>hlt ⟨h,hne⟩
    ·left;omega
   clear hlt
   generalize out.length=ol at*
   generalize ys.length=yl at*
   rcases hor with hge|⟨hlt,hd⟩
   ·by_cases hk:k=0
    ·have HQ:Hid (pres (nums s)=(out,(p:Int),0)):=HX.out hk
     clear HX HY
     subst hk
     go_wp2_with fail
     refine (HK.out _).mono ?_
     rintro e w1 ⟨rfl,rfl⟩
     go_wp2
     go_ret3
     exact ⟨by rw[HQ.out];rfl,HB.out⟩
    ·obtain ⟨hq,hk4⟩:=HY.out hk
     have HQ:Hid (pres (nums s)=([],0,4)):=hq
     clear hq hk HX HY
     subst hk4
     go_wp2_with fail
     refine (HK.out _).mono ?_
     rintro e w1 ⟨rfl,rfl⟩
     go_wp2
     go_ret3
     exact ⟨by rw[HQ.out];rfl,HB.out⟩
   ·have hd':((s[p].toNat:Int) != 46)=false:=by rw[hd];rfl
    have hlt':(p:Int)<(s.size:Int):=by omega
    clear hd
    by_cases hk:k=0
    ·have HQ:Hid (pres (nums s)=(out,(p:Int),0)):=HX.out hk
     clear HX HY
     subst hk
     go_wp2_with fail
     refine (HK.out _).mono ?_
     rintro e w1 ⟨rfl,rfl⟩
     go_wp2
     go_ret3
     exact ⟨by rw[HQ.out];rfl,HB.out⟩
    ·obtain ⟨hq,hk4⟩:=HY.out hk
     have HQ:Hid (pres (nums s)=([],0,4)):=hq
     clear hq hk HX HY
     subst hk4
     go_wp2_with fail
     refine (HK.out _).mono ?_
     rintro e w1 ⟨rfl,rfl⟩
     go_wp2
     go_ret3
     exact ⟨by rw[HQ.out];rfl,HB.out⟩
def nsz:List ByteArray->Nat
 |[]=>1
 |s::r=>s.size+1+nsz r
theorem nsz_snoc(l:List ByteArray)(s:ByteArray):nsz (l++[s])=nsz l+s.size+1:=by
 induction l with
 |nil=>simp[nsz];omega
 |cons x l ih=>simp only[List.cons_append,nsz,ih];omega
theorem nsz_le(l:List ByteArray)(k:Nat):nsz (l.take k)<=nsz l:=by
 induction l generalizing k with
 |nil=>simp[nsz]
 |cons x l ih=>
  cases k with
  |zero=>simp[nsz];omega
  |succ k=>simp only[List.take_succ_cons,nsz];have:=ih k;omega
theorem take_snocT(ss:List ByteArray)(k:Nat)(h:k<ss.length):ss.take (k+1)=ss.take k++[ss[k]]:=List.take_succ_eq_append_getElem h
def labsOk(ss:List ByteArray):Prop:=∀s∈ss,chk s.size=0
instance (ss:List ByteArray):Decidable (labsOk ss):=by unfold labsOk;exact inferInstance
def nck(ss:List ByteArray):Int:=if labsOk ss then (if 255<nsz ss then 5 else 0) else 4
theorem chk_cases(n:Nat):chk n=0∨chk n=4:=by unfold chk;split <;> simp
structure Nm(w:World)(a:Option Addr)(n:Nat)(ss:List ByteArray):Prop where
 rd:RdT w a ss
 len:ss.length=n
 sz:nsz ss<=1000000000000
theorem nsz_len:∀l:List ByteArray,l.length+1<=nsz l
 |[]=>by simp[nsz]
 |x::l=>by have:=nsz_len l;simp only[List.length_cons,nsz];omega
theorem nsz_mem:∀(l:List ByteArray) (s:ByteArray),s∈l->s.size<=nsz l
 |x::l,s,h=>by
  simp only[nsz]
  rcases List.mem_cons.1 h with rfl|h
  ·omega
  ·have:=nsz_mem l s h;omega
theorem Nm.below{w w':World}{a:Option Addr}{n:Nat}{ss:List ByteArray}(h:Nm w a n ss)(hb:Below w.heap.size w w'):Nm w' a n ss:=⟨h.rd.below hb,h.len,h.sz⟩
theorem Nm.n63{w:World}{a:Option Addr}{n:Nat}{ss:List ByteArray}(h:Nm w a n ss):n<=1000000000000:=by have:=nsz_len ss;have:=h.len;have:=h.sz;omega
theorem Nm.mem{w:World}{a:Option Addr}{n:Nat}{ss:List ByteArray}(h:Nm w a n ss)(s:ByteArray)(hs:s∈ss):s.size<=1000000000000:=Nat.le_trans (nsz_mem ss s hs) h.sz
def NPost(r:List ByteArray)(k:Int)(w:World)(e:Ending)(w':World):Prop:=
 ∃v ys,e=.returned (.tuple #[v,.int .i64 k])/\Hid (OwnT w.heap.size w' v r.length ys 1000000000000/\ys.take r.length=r/\Below w.heap.size w w')
theorem npost_none{k:Int}{w w':World}{e:Ending}(he:e=.returned (.tuple #[.slice none 0 0,.int .i64 k]))(hb:Below w.heap.size w w'):NPost [] k w e w':=
 ⟨.slice none 0 0,[],he,OwnT.nil _ _ _,rfl,hb⟩
theorem nm_nil(w:World)(a:Option Addr):Nm w a 0 []:=⟨.inl rfl,rfl,by decide⟩
theorem nck_small{ss:List ByteArray}(h:nck ss=0):nsz ss<=255/\labsOk ss:=by
 unfold nck at h
 split at h
 ·rename_i h1
  split at h
  ·cases h
  ·exact ⟨by omega,h1⟩
 ·cases h
theorem nsz_append(a b:List ByteArray):nsz (a++b)+1=nsz a+nsz b:=by
 induction a with
 |nil=>simp[nsz];omega
 |cons x a ih=>simp only[List.cons_append,nsz];omega
def njoin(a b:List ByteArray):List ByteArray × Int:=if nck a=0 then (if nck b=0 then (if nck (a++b)=0 then (a++b,0) else ([],5)) else ([],nck b)) else ([],nck a)
def tb(s:ByteArray):ByteArray:=⟨(txt (tx (nums s))).toArray⟩
def ntxt(l:List ByteArray):ByteArray:=l.foldl (fun acc s=>acc++tb s++⟨#[46]⟩) ⟨#[]⟩
theorem ntxt_snoc(l:List ByteArray)(s:ByteArray):ntxt (l++[s])=ntxt l++tb s++⟨#[46]⟩:=by simp[ntxt,List.foldl_append]
theorem tb_size(s:ByteArray):(tb s).size<=4*s.size:=by
 have:=tx_len (nums s)
 rw[nums_len] at this
 show (txt (tx (nums s))).toArray.size<=_
 simp[txt]
 exact this
theorem ntxt_size(l:List ByteArray):∀k,k<=l.length->(ntxt (l.take k)).size<=4*nsz l:=by
 intro k
 induction k with
 |zero=>intro _;exact Nat.zero_le _
 |succ k ih=>
  intro hk
  have hkl:k<l.length:=by omega
  have h0:∀j,j<=l.length->(ntxt (l.take j)).size<=4*nsz (l.take j):=by
   intro j
   induction j with
   |zero=>intro _;exact Nat.zero_le _
   |succ j ihj=>
    intro hj
    have hjl:j<l.length:=by omega
    rw[take_snocT l j hjl,ntxt_snoc,nsz_snoc,ByteArray.size_append,ByteArray.size_append]
    have:=ihj (by omega)
    have:=tb_size l[j]
    show _+_+1<=_
    omega
  have:=h0 (k+1) hk
  have:=nsz_le l (k+1)
  omega
def ntext(ss:List ByteArray):ByteArray × Int:=if nck ss=0 then (if ss.length=0 then (⟨#[46]⟩,0) else (ntxt ss,0)) else (⟨#[]⟩,nck ss)
theorem tyB:ElemTy Tryz.prog 46 5 (.int .u8 0) 1:=⟨Tryz.underlying46,by kernel_rfl,rfl⟩
def QB(u:Value):Prop:=∃z:Int,u=.int .u8 z/\0<=z/\z<=255
theorem bytes_of:∀xs:List Value,(∀u∈xs,QB u)->∃zs:List Int,xs=zs.map (Value.int .u8)/\∀z∈zs,0<=z/\z<=255
 |[],_=>⟨[],rfl,by simp⟩
 |x::xs,h=>by
  obtain ⟨zs,e1,e2⟩:=bytes_of xs (fun u hu=>h u (by simp[hu]))
  obtain ⟨z,rfl,hz⟩:=h x (by simp)
  refine ⟨z::zs,by rw[e1];rfl,fun q hq=>?_⟩
  rcases List.mem_cons.1 hq with rfl|hq
  ·exact hz
  ·exact e2 q hq
theorem int_inj:∀{a b:List Int},a.map (Value.int .u8)=b.map (Value.int .u8)->a=b
 |[],[],_=>rfl
 |[],_::_,h=>by simp at h
 |_::_,[],h=>by simp at h
 |x::a,y::b,h=>by
  simp only[List.map_cons,List.cons.injEq,Value.int.injEq,true_and] at h
  rw[h.1,int_inj (a:=a) (b:=b) h.2]
def nby(l:List ByteArray):List Int:=l.flatMap fun s=>(s.size:Int)::nums s
theorem nby_len(l:List ByteArray):(nby l).length+1=nsz l:=by
 induction l with
 |nil=>simp[nby,nsz]
 |cons x l ih=>simp only[nby,List.flatMap_cons,List.length_append,List.length_cons,nums_len,nsz] at ih ⊢;omega
theorem go_le(l:List Int)(hb:∀z∈l,0<=z/\z<=255):∀(n p:Nat) (out o:List Int) (q:Nat),l.length - p<=n->p<=l.length->go l p out=some (o,q)->p<=q/\q<=l.length:=by
 intro n
 induction n with
 |zero=>
  intro p out o q hn hp h
  rw[go_stop _ _ _ (by omega)] at h
  cases h
  omega
 |succ n ih=>
  intro p out o q hn hp h
  by_cases hs:p<l.length/\l.getD p 0≠46
  ·by_cases hf:(fr (l.drop p)).2<=0
   ·rw[go_bad _ _ _ hs hf] at h;cases h
   ·rw[go_step _ _ _ hs hf] at h
    have hfb:=fr_bd (l.drop p) (fun z hz=>hb z (List.mem_of_mem_drop hz)) (by rw[List.length_drop];omega)
    rw[List.length_drop] at hfb
    have:=ih _ _ _ _ (by omega) (by omega) h
    omega
  ·rw[go_stop _ _ _ hs] at h
   cases h
   omega
theorem pres_le(l:List Int)(hb:∀z∈l,0<=z/\z<=255)(h:(pres l).2.2=0):∃p:Nat,(pres l).2.1=(p:Int)/\p<=l.length/\1<=(pres l).1.length/\(pres l).1.length<=63:=by
 unfold pres at h ⊢
 cases hg:go l 0 [] with
 |none=>rw[hg] at h;cases h
 |some r=>
  obtain ⟨o,q⟩:=r
  rw[hg] at h
  simp only at h ⊢
  split at h
  ·rename_i h1
   rw[if_pos h1]
   exact ⟨q,rfl,(go_le l hb _ 0 [] o q (Nat.le_refl _) (Nat.zero_le _) hg).2,h1.1,h1.2⟩
  ·cases h
def lb(l:List Int):ByteArray:=⟨(txt l).toArray⟩
theorem lb_size(l:List Int):(lb l).size=l.length:=txt_size l
def lgo(l:List Int)(out:List ByteArray):List ByteArray × Bool × Int:=
 if (pres l).2.2=0 then
  if (pres l).2.1=(l.length:Int) then (out++[lb (pres l).1],false,0)
  else if h:(l.drop ((pres l).2.1.toNat+1)).length=0 then (out++[lb (pres l).1],true,0)
  else lgo (l.drop ((pres l).2.1.toNat+1)) (out++[lb (pres l).1])
 else ([],false,(pres l).2.2)
termination_by l.length
decreasing_by
 simp only[List.length_drop] at h ⊢
 omega
def LPost(r:List ByteArray × Bool × Int)(w:World)(e:Ending)(w':World):Prop:=
 ∃v ys,e=.returned (.tuple #[v,.bool r.2.1,.int .i64 r.2.2])/\Hid (OwnT w.heap.size w' v r.1.length ys 1000000000000/\ys.take r.1.length=r.1/\Below w.heap.size w w')
theorem lgo_bd:∀(n:Nat) (l:List Int) (out:List ByteArray),l.length<=n->(∀z∈l,0<=z/\z<=255)->(∀x∈out,x.size<=63)->(∀x∈(lgo l out).1,x.size<=63)/\(lgo l out).1.length<=out.length+l.length+1:=by
 intro n
 induction n with
 |zero=>
  intro l out hl hb ho
  have e:l=[]:=List.eq_nil_of_length_eq_zero (by omega)
  subst e
  rw[lgo,if_neg]
  ·simp
  ·have:pres []=([],0,4):=(pres_no (l:=[]) (out:=[]) (p:=0) (go_stop _ _ _ (by simp)) (by decide)).1
   rw[this]
   decide
 |succ n ih=>
  intro l out hl hb ho
  rw[lgo]
  by_cases h0:(pres l).2.2=0
  ·rw[if_pos h0]
   obtain ⟨p,hp,hpl,hl1,hl2⟩:=pres_le l hb h0
   have ho2:∀x∈out++[lb (pres l).1],x.size<=63:=by
    intro x hx
    rcases List.mem_append.1 hx with hx|hx
    ·exact ho x hx
    ·simp at hx;subst hx;rw[lb_size];exact hl2
   rw[hp,Int.toNat_natCast]
   split
   ·exact ⟨ho2,by rw[List.length_append];show out.length+1<=_;omega⟩
   ·split
    ·exact ⟨ho2,by rw[List.length_append];show out.length+1<=_;omega⟩
    ·rename_i h1 h2
     rw[List.length_drop] at h2
     have:=ih (l.drop (p+1)) (out++[lb (pres l).1]) (by rw[List.length_drop];omega) (fun z hz=>hb z (List.mem_of_mem_drop hz)) ho2
     refine ⟨this.1,Nat.le_trans this.2 ?_⟩
     rw[List.length_append,List.length_drop]
     show out.length+1+_+1<=_
     omega
  ·rw[if_neg h0]
   simp
theorem nsz_bd(l:List ByteArray)(h:∀x∈l,x.size<=63):nsz l<=64*l.length+1:=by
 induction l with
 |nil=>simp[nsz]
 |cons x l ih=>
  have:=ih (fun y hy=>h y (by simp[hy]))
  have:=h x (by simp)
  simp only[nsz,List.length_cons]
  omega
theorem lgo_nsz(s:ByteArray)(hs:s.size<=1000000000):nsz (lgo (nums s) []).1<=1000000000000:=by
 have:=lgo_bd _ (nums s) [] (Nat.le_refl _) (nums_all s) (by simp)
 have h2:=nsz_bd _ this.1
 rw[nums_len] at this
 simp at this
 omega
def nparse(s:ByteArray):List ByteArray × Int:=
 if s.toList=[46] then ([],0)
 else if (lgo (nums s) []).2.2=0 then
  (if (lgo (nums s) []).2.1 then (if nck (lgo (nums s) []).1=0 then ((lgo (nums s) []).1,0) else ([],nck (lgo (nums s) []).1)) else ([],5))
 else ([],(lgo (nums s) []).2.2)
def nrel(s:ByteArray)(og:List ByteArray):List ByteArray × Int:=
 if nck og=0 then
  (if s.toList=[64] then (og,0) else if s.toList=[46] then ([],0)
  else if (lgo (nums s) []).2.2=0 then (if (lgo (nums s) []).2.1 then nparse s else njoin (lgo (nums s) []).1 og) else ([],(lgo (nums s) []).2.2))
 else ([],nck og)
end Go.Proofs.YtjkljpdolhglcaaGreatDoor
namespace Go.Proofs.YtjkljpdolhglcaaGreatDoor
open Go.ChangeShapes Go.WideShapes Go.ChangeAt Go.RowKit Go.Sort
theorem low_all:∀c:Fin 256,(65<=c.val/\c.val<=90->c.val ||| 32=c.val+32)/\(97<=c.val/\c.val<=122->c.val ||| 32=c.val)/\(¬ (65<=c.val/\c.val<=90)->¬ (97<=c.val/\c.val<=122)->(c.val ||| 32<97∨122<c.val ||| 32))/\c.val ||| 32<256:=by decide +kernel
theorem low_any(c:Nat)(hc:c<256)(w:World):Calls Tryz.prog 116 #[.int .u8 (c:Int)] w fun e w'=>e=.returned (.int .u8 ((c ||| 32:Nat):Int))/\w'=w:=by
 refine (Tryz.internal_strconv_lower (c:Int) w).mono ?_
 rintro e w' ⟨rfl,rfl⟩
 have:=u8_or (c:Int) 32 (by omega) (by omega) (by omega) (by omega)
 rw[this]
 exact ⟨rfl,rfl⟩
def hx1(v:Nat):Option Nat:=if 97<=v/\v<=102 then some (v - 87) else none
theorem xhv_low(c:Nat)(hc:c<256)(hd:¬ (48<=c/\c<=57)):xhv (c:Int)=hx1 (c ||| 32):=by
 obtain ⟨h1,h2,h3,h4⟩:=low_all ⟨c,hc⟩
 simp only at h1 h2 h3 h4
 unfold xhv hx1
 rw[if_neg (by omega)]
 by_cases ha:97<=c/\c<=122
 ·rw[h2 ha]
  by_cases hb:c<=102
  ·rw[if_pos (by omega),if_pos (by omega)];congr 1;omega
  ·rw[if_neg (by omega),if_neg (by omega),if_neg (by omega)]
 ·by_cases hb:65<=c/\c<=90
  ·rw[h1 hb,if_neg (by omega)]
   by_cases hb:c<=70
   ·rw[if_pos (by omega),if_pos (by omega)];congr 1;omega
   ·rw[if_neg (by omega),if_neg (by omega)]
  ·have:=h3 hb ha
   rw[if_neg (by omega),if_neg (by omega),if_neg (by omega)]
theorem pu16_in(t:ByteArray)(hne:t.size≠0)(hmax:t.size<=9223372036854775806)(w:World) :
  Calls Tryz.prog 98 #[.string t,.int .i64 16,.int .i64 16] w fun e w'=>e=.returned (Lib.uintTupleM 181 65535 (puX 0 t.data.toList))/\w'=Lib.bytesWorld w 5 t:=by
 have hemp:t.toList.isEmpty=false:=by
  rw[<- decide_eq_emptyBytes]
  exact decide_eq_false (fun h=>hne (by rw[h];rfl))
 have hcv:=Lib.run_convert_string_bytes (P:=Tryz.prog) w 9 46 5 t (u:=.string) Tryz.underlying9 Tryz.underlying46 Tryz.underlying5
 have hB:∀j,j<t.size->(Lib.bytesWorld w 5 t).cell? ⟨w.heap.size,j,none⟩=some (.int .u8 (t.data.toList.getD j 0).toNat):=fun j hj=>Lib.bytesWorld_cell w 5 t j hj
 obtain ⟨W1,hW1⟩:∃W1,W1=Lib.bytesWorld w 5 t:=⟨_,rfl⟩
 rw[<- hW1] at hcv hB ⊢
 clear hW1
 obtain ⟨bs,hL⟩:∃bs,bs=t.data.toList:=⟨_,rfl⟩
 have hLn:bs.length=t.size:=by rw[hL,Lib.size_eq]
 rw[<- hL] at hB ⊢
 clear hL
 have hmv:IntKind.u64.wrap (IntKind.u64.wrap 65536 - 1)=65535:=by
  rw[IntKind.wrap_u64,IntKind.wrap_u64]
  decide
 go_enter Tryz.func98,Tryz.ntmps98
 go_wp2
 go_loop [12,13,101] (fun vu vn vi=>∃(k acc:Nat) (a:Int),vu=.bool false/\vn=.int .u64 a/\vi=.int .i64 k/\k<=t.size/\Hid (a=(acc:Int)/\acc<=65535/\puX 0 bs=puX acc (bs.drop k)))
  (fun _ _ vi=>t.size - (intOf vi).toNat)
 case atStart=>exact ⟨0,0,0,rfl,rfl,rfl,by omega,rfl,by omega,rfl⟩
 case round=>
  obtain ⟨k,acc,a,rfl,rfl,rfl,hk,hh⟩:=hrel
  obtain ⟨ha,hacc,hdec⟩:=hh.out
  clear hh
  have a0:0<=a:=by omega
  have a1:a<=65535:=by omega
  by_cases hkn:k<t.size
  ·have hc:=hB k hkn
   have hdrop:bs.drop k=bs[k]'(by omega)::bs.drop (k+1):=List.drop_eq_getElem_cons (by omega)
   have hget:bs.getD k 0=bs[k]'(by omega):=by simp[List.getD,List.getElem?_eq_getElem (show k<bs.length by omega)]
   rw[hdrop] at hdec
   rw[hget] at hc
   generalize bs[k]'(by omega)=c at hc hdec
   have hc256:c.toNat<256:=c.toNat_lt
   clear hB hdrop hget
   simp only[puX] at hdec
   generalize hR:bs.drop (k+1)=R at hdec
   by_cases hdig:48<=c.toNat/\c.toNat<=57
   ·have hxv:xhv (c.toNat:Int)=some (c.toNat - 48):=by
     unfold xhv;rw[if_pos (by omega)];congr 1;omega
    rw[hxv] at hdec
    simp only at hdec
    obtain ⟨hd0,hd1⟩:=hdig
    clear hxv
    by_cases hov:65535<acc*16+(c.toNat - 48)
    ·rw[if_pos hov] at hdec
     have iov:65535<a*16+((c.toNat:Int) - 48):=by omega
     clear hacc hov ha
     go_wp2
     go_ret2
     exact ⟨rfl,rfl⟩
    ·rw[if_neg hov] at hdec
     have HN:Hid (a*16+((c.toNat:Int) - 48)=((acc*16+(c.toNat - 48):Nat):Int)/\acc*16+(c.toNat - 48)<=65535/\puX 0 bs=puX (acc*16+(c.toNat - 48)) (bs.drop (k+1))):=Lib.hid ⟨by omega,by omega,by rw[hR];exact hdec⟩
     have iov:a*16+((c.toNat:Int) - 48)<=65535:=by omega
     clear hacc hov hdec ha
     go_wp2
     refine ⟨⟨k+1,acc*16+(c.toNat - 48),a*16+((c.toNat:Int) - 48),rfl,(by first|rfl|(congr 1;omega)),(by first|rfl|(congr 1;omega)),by omega,HN⟩,by simp[intOf];omega⟩
   ·have KL:=Lib.hid (low_any c.toNat hc256)
    rw[xhv_low c.toNat hc256 hdig] at hdec
    have hv256:=(low_all ⟨c.toNat,hc256⟩).2.2.2
    have h95:c.toNat=95->c.toNat ||| 32=127:=by intro h;rw[h];rfl
    simp only at hv256
    generalize c.toNat ||| 32=v at*
    by_cases h97:97<=v
    ·by_cases h122:v<=122
     ·have hn95:¬ (c.toNat:Int)=95:=by intro h;have:=h95 (by omega);omega
      have i97:(97:Int)<=(v:Int):=by omega
      have i122:(v:Int)<=122:=by omega
      by_cases h102:v<=102
      ·have hxv:hx1 v=some (v - 87):=by unfold hx1;rw[if_pos ⟨h97,h102⟩]
       rw[hxv] at hdec
       simp only at hdec
       clear hxv
       have i102:(v:Int)<=102:=by omega
       by_cases hov:65535<acc*16+(v - 87)
       ·rw[if_pos hov] at hdec
        have iov:65535<a*16+((v:Int) - 97+10):=by omega
        clear hacc hov ha h95
        rcases (by omega:(c.toNat:Int)<48∨57<(c.toNat:Int)) with hq|hq
        all_goals
         go_wp2_with (go_at_call 116;refine (KL.out _).mono ?_;rintro e w' ⟨rfl,hw⟩;subst w')
         go_ret2
         first|exact ⟨rfl,rfl⟩|exact ⟨by rw[hdec];rfl,rfl⟩
       ·rw[if_neg hov] at hdec
        have HN:Hid (a*16+((v:Int) - 97+10)=((acc*16+(v - 87):Nat):Int)/\acc*16+(v - 87)<=65535/\puX 0 bs=puX (acc*16+(v - 87)) (bs.drop (k+1))):=Lib.hid ⟨by omega,by omega,by rw[hR];exact hdec⟩
        have iov:a*16+((v:Int) - 97+10)<=65535:=by omega
        clear hacc hov hdec ha h95
        rcases (by omega:(c.toNat:Int)<48∨57<(c.toNat:Int)) with hq|hq
        all_goals
         go_wp2_with (go_at_call 116;refine (KL.out _).mono ?_;rintro e w' ⟨rfl,hw⟩;subst w')
         refine ⟨⟨k+1,acc*16+(v - 87),a*16+((v:Int) - 97+10),rfl,(by first|rfl|(congr 1;omega)),(by first|rfl|(congr 1;omega)),by omega,HN⟩,by simp[intOf];omega⟩
      ·have hxv:hx1 v=none:=by unfold hx1;rw[if_neg (by omega)]
       rw[hxv] at hdec
       simp only at hdec
       have i102:102<(v:Int):=by omega
       clear hacc ha h95 hxv
       rcases (by omega:(c.toNat:Int)<48∨57<(c.toNat:Int)) with hq|hq
       all_goals
        go_wp2_with (go_at_call 116;refine (KL.out _).mono ?_;rintro e w' ⟨rfl,hw⟩;subst w')
        go_ret2
        first|exact ⟨rfl,rfl⟩|exact ⟨by rw[hdec];rfl,rfl⟩
     ·have hxv:hx1 v=none:=by unfold hx1;rw[if_neg (by omega)]
      rw[hxv] at hdec
      simp only at hdec
      have i97:(97:Int)<=(v:Int):=by omega
      have i122:122<(v:Int):=by omega
      clear hacc ha h95 hxv
      rcases (by omega:(c.toNat:Int)<48∨(57<(c.toNat:Int)/\(c.toNat:Int)<95)∨95<(c.toNat:Int)∨c.toNat=95) with hq|⟨hq,hq2⟩|hq|hq
      case inr.inr.inr=>
       have hq:(c.toNat:Int)=95:=by omega
       rw[hq] at hc KL
       go_wp2_with (go_at_call 116;refine (KL.out _).mono ?_;rintro e w' ⟨rfl,hw⟩;subst w')
       go_ret2
       first|exact ⟨rfl,rfl⟩|exact ⟨by rw[hdec];rfl,rfl⟩
      all_goals
       go_wp2_with (go_at_call 116;refine (KL.out _).mono ?_;rintro e w' ⟨rfl,hw⟩;subst w')
       go_ret2
       first|exact ⟨rfl,rfl⟩|exact ⟨by rw[hdec];rfl,rfl⟩
    ·have hxv:hx1 v=none:=by unfold hx1;rw[if_neg (by omega)]
     rw[hxv] at hdec
     simp only at hdec
     have hn95:¬ (c.toNat:Int)=95:=by intro h;have:=h95 (by omega);omega
     have i97:(v:Int)<97:=by omega
     clear hacc ha h95 hxv
     rcases (by omega:(c.toNat:Int)<48∨57<(c.toNat:Int)) with hq|hq
     all_goals
      go_wp2_with (go_at_call 116;refine (KL.out _).mono ?_;rintro e w' ⟨rfl,hw⟩;subst w')
      go_ret2
      first|exact ⟨rfl,rfl⟩|exact ⟨by rw[hdec];rfl,rfl⟩
  ·have hkk:k=t.size:=by omega
   subst hkk
   have hF:puX acc (bs.drop t.size)=.ok acc:=by rw[List.drop_eq_nil_of_le (by omega)];rfl
   rw[hF] at hdec
   subst ha
   clear hacc hF a0 a1
   go_wp2
   go_ret2
   first|exact ⟨rfl,rfl⟩|exact ⟨by rw[hdec];rfl,rfl⟩
theorem nums_bi(s:ByteArray):nums s=bi s.data.toList:=rfl
theorem bw_below{w w':World}{s:ByteArray}(h:w'=w∨w'=Lib.bytesWorld w 5 s):Below w.heap.size w w':=by
 rcases h with rfl|rfl
 ·exact Below.refl _ _
 ·exact Lib.bytesWorld_below _ _ _
theorem pu10_ok(B:Nat)(hB:B=8∨B=32)(s:ByteArray)(hs:s.size<=281474976710656)(u:Nat)(h:Lib.parseUintB B s.data.toList=.ok u)(w:World) :
  Calls Tryz.prog 78 #[.string s,.int .i64 10,.int .i64 (B:Int)] w fun e w'=>e=.returned (.tuple #[.int .u64 u,.nilIface])/\Hid (Below w.heap.size w w'):=by
 rcases hB with rfl|rfl
 ·refine (Tryz.strconv_ParseUint_10_at8_ok s (by omega) u h w).mono ?_
  rintro e w' ⟨rfl,hw⟩
  exact ⟨rfl,bw_below hw⟩
 ·refine (Tryz.strconv_ParseUint_10_at32_ok s (by omega) u h w).mono ?_
  rintro e w' ⟨rfl,hw⟩
  exact ⟨rfl,bw_below hw⟩
theorem pu10_no(B:Nat)(hB:B=8∨B=32)(s:ByteArray)(hs:s.size<=281474976710656)(h:∀u,Lib.parseUintB B s.data.toList≠.ok u)(w:World)(hE:LayE w) :
  Calls Tryz.prog 78 #[.string s,.int .i64 10,.int .i64 (B:Int)] w fun e w'=>∃x N,e=.returned (.tuple #[.int .u64 x,.iface 183 (.pointer (some ⟨N,0,none⟩))])/\(0<=x/\x<=4294967295)/\Hid (Below w.heap.size w w'):=by
 obtain ⟨⟨tp,p,h1⟩,⟨tq,q,h2⟩,_,_⟩:=hE
 cases hr:Lib.parseUintB B s.data.toList with
 |ok u=>exact absurd hr (h u)
 |«syntax»=>
  rcases hB with rfl|rfl
  ·refine (Tryz.strconv_ParseUint_10_at8_syntax_var s hs hr tp p w h1).mono ?_
   rintro e w' ⟨N,rfl,_,_,hb⟩
   exact ⟨_,N,rfl,by omega,hb⟩
  ·refine (Tryz.strconv_ParseUint_10_at32_syntax_var s hs hr tp p w h1).mono ?_
   rintro e w' ⟨N,rfl,_,_,hb⟩
   exact ⟨_,N,rfl,by omega,hb⟩
 |range=>
  rcases hB with rfl|rfl
  ·refine (Tryz.strconv_ParseUint_10_at8_range_var s hs hr tq q w h2).mono ?_
   rintro e w' ⟨N,rfl,_,_,hb⟩
   exact ⟨_,N,rfl,by omega,hb⟩
  ·refine (Tryz.strconv_ParseUint_10_at32_range_var s hs hr tq q w h2).mono ?_
   rintro e w' ⟨N,rfl,_,_,hb⟩
   exact ⟨_,N,rfl,by omega,hb⟩
theorem pu16_empty(w:World):Calls Tryz.prog 98 #[.string ⟨#[]⟩,.int .i64 16,.int .i64 16] w fun e w'=>e=.returned (.tuple #[.int .u64 0,.iface 181 (.int .i64 2)])/\w'=w:=by
 go_enter Tryz.func98,Tryz.ntmps98
 go_wp2
 go_ret2
 exact ⟨rfl,rfl⟩
theorem size_ne{s:ByteArray}(h:s.data.toList≠[]):s.size≠0:=by
 intro e
 apply h
 have:s.data.toList.length=s.size:=rfl
 exact List.length_eq_zero_iff.1 (by omega)
theorem ba_nil{s:ByteArray}(h:s.data.toList=[]):s=⟨#[]⟩:=by
 apply ByteArray.ext
 simpa using h
theorem pu16_ok(s:ByteArray)(hs:s.size<=281474976710656)(u:Nat)(h:puH s.data.toList=.ok u)(w:World) :
  Calls Tryz.prog 78 #[.string s,.int .i64 16,.int .i64 16] w fun e w'=>e=.returned (.tuple #[.int .u64 u,.nilIface])/\Hid (Below w.heap.size w w'):=by
 unfold puH at h
 split at h
 ·cases h
 ·next h0=>
  have K:=Lib.hid (pu16_in s (size_ne h0) (by omega) w)
  rw[h] at K
  go_enter Tryz.func78,Tryz.ntmps78
  go_wp2_with fail
  refine K.out.mono ?_
  rintro e w' ⟨rfl,hw⟩
  have HB:Hid (Below w.heap.size w w'):=bw_below (.inr hw)
  clear hw
  simp only[Lib.uintTupleM]
  go_wp2_with fail
  go_ret2
  exact ⟨rfl,HB.out⟩
theorem pu16_no(s:ByteArray)(hs:s.size<=281474976710656)(h:∀u,puH s.data.toList≠.ok u)(w:World)(hE:LayE w) :
  Calls Tryz.prog 78 #[.string s,.int .i64 16,.int .i64 16] w fun e w'=>∃x N,e=.returned (.tuple #[.int .u64 x,.iface 183 (.pointer (some ⟨N,0,none⟩))])/\Hid (Below w.heap.size w w'):=by
 have HE:Hid (LayE w):=hE
 have K:(∃W1 x y,(y=1∨y=2)/\Calls Tryz.prog 98 #[.string s,.int .i64 16,.int .i64 16] w fun e w'=>e=.returned (.tuple #[.int .u64 x,.iface 181 (.int .i64 y)])/\w'=W1/\Below w.heap.size w W1):=by
  by_cases h0:s.data.toList=[]
  ·have e:=ba_nil h0
   subst e
   exact ⟨w,0,2,.inr rfl,(pu16_empty w).mono fun e w' ⟨h1,h2⟩=>⟨h1,h2,Below.refl _ _⟩⟩
  ·have K:=pu16_in s (size_ne h0) (by omega) w
   have hp:puH s.data.toList=puX 0 s.data.toList:=by unfold puH;rw[if_neg h0]
   rw[hp] at h
   cases hr:puX 0 s.data.toList with
   |ok u=>exact absurd hr (h u)
   |«syntax»=>rw[hr] at K;exact ⟨_,0,2,.inr rfl,K.mono fun e w' ⟨h1,h2⟩=>⟨h1,h2,Lib.bytesWorld_below _ _ _⟩⟩
   |range=>rw[hr] at K;exact ⟨_,65535,1,.inl rfl,K.mono fun e w' ⟨h1,h2⟩=>⟨h1,h2,Lib.bytesWorld_below _ _ _⟩⟩
 clear hE h
 obtain ⟨W1,x,y,hy,K⟩:=K
 have K:=Lib.hid K
 rcases hy with rfl|rfl
 ·go_enter Tryz.func78,Tryz.ntmps78
  go_wp2_with fail
  refine K.out.mono ?_
  rintro e w' ⟨rfl,hw,hb⟩
  subst w'
  have HB:Hid (Below w.heap.size w W1):=hb
  have HE1:=Lib.hid (HE.out.below hb)
  clear hb HE
  obtain ⟨⟨tp,p,h1⟩,⟨tq,q,h2⟩,_,_⟩:=HE1.out
  have g1:W1.cell? ⟨5,0,none⟩=some (.iface tp p):=by have h0:=World.var?_cell gSyn h1 0;simpa using h0
  have g2:W1.cell? ⟨6,0,none⟩=some (.iface tq q):=by have h0:=World.var?_cell gRng h2 0;simpa using h0
  have G1:=Lib.hid g1
  have G2:=Lib.hid g2
  clear g1 g2 h1 h2
  go_wp2_with fail
  refine (Tryz.strconv_toError_range _ s 16 16 (.iface tq q) W1 hs G2.out (Or.inr ⟨tq,q,rfl⟩)).mono ?_
  rintro e w' ⟨N,rfl,_,_,hb⟩
  have HB2:Hid (Below w.heap.size w w'):=HB.out.trans (hb.mono HB.out.size)
  clear hb
  go_wp2_with fail
  go_ret2
  exact ⟨_,N,rfl,HB2.out⟩
 ·go_enter Tryz.func78,Tryz.ntmps78
  go_wp2_with fail
  refine K.out.mono ?_
  rintro e w' ⟨rfl,hw,hb⟩
  subst w'
  have HB:Hid (Below w.heap.size w W1):=hb
  have HE1:=Lib.hid (HE.out.below hb)
  clear hb HE
  obtain ⟨⟨tp,p,h1⟩,⟨tq,q,h2⟩,_,_⟩:=HE1.out
  have g1:W1.cell? ⟨5,0,none⟩=some (.iface tp p):=by have h0:=World.var?_cell gSyn h1 0;simpa using h0
  have g2:W1.cell? ⟨6,0,none⟩=some (.iface tq q):=by have h0:=World.var?_cell gRng h2 0;simpa using h0
  have G1:=Lib.hid g1
  have G2:=Lib.hid g2
  clear g1 g2 h1 h2
  go_wp2_with fail
  refine (Tryz.strconv_toError_syntax _ s 16 16 (.iface tp p) W1 hs G1.out (Or.inr ⟨tp,p,rfl⟩)).mono ?_
  rintro e w' ⟨N,rfl,_,_,hb⟩
  have HB2:Hid (Below w.heap.size w w'):=HB.out.trans (hb.mono HB.out.size)
  clear hb
  go_wp2_with fail
  go_ret2
  exact ⟨_,N,rfl,HB2.out⟩
theorem head_at(s:ByteArray)(h:0<s.size):(nums s).head?=some (s[0].toNat:Int):=by
 have h1:=nums_at s 0 h
 have h2:0<(nums s).length:=by rw[nums_len];exact h
 rw[List.getD_eq_getElem?_getD,List.getElem?_eq_getElem h2] at h1
 rw[List.head?_eq_getElem?,List.getElem?_eq_getElem h2,<- h1]
 rfl
theorem pow2B{B:Nat}(hB:B=8∨B=32):2 ^ B - 1<1844674407370955162/\2 ^ B<=4294967296:=by rcases hB with rfl|rfl <;> decide
theorem num_yes(B:Nat)(hB:B=8∨B=32)(s:ByteArray)(hs:s.size<=281474976710656)(n:Nat)(h:xnum (nums s) (2 ^ B)=some n)(w:World) :
  Calls Tryz.prog 151 #[.string s,.int .i64 (B:Int)] w fun e w'=>e=.returned (.tuple #[.int .u32 (n:Int),.bool true])/\Hid (Below w.heap.size w w'):=by
 have hn:n<4294967296:=by have:=(xnum_some h).2;have:=(pow2B hB).2;omega
 have hz:¬ (1<s.data.toList.length/\(bi s.data.toList).head?=some 48):=by
  rintro ⟨h1,h2⟩
  rw[lnum_zero (nums s) (2 ^ B) (by rw[nums_bi,bi_len];exact h1) h2] at h
  cases h
 have K:=Lib.hid (fun W=>pu10_ok B hB s hs n ((lnum_ok B (pow2B hB).1 _ n hz).2 h) W)
 clear h
 by_cases h1:1<s.size
 ·have h1':(1:Int)<(s.size:Int):=by omega
  have h0':(0:Int)<(s.size:Int):=by omega
  have h48:((s[0].toNat:Int) == 48)=false:=by
   rw[beq_eq_false_iff_ne]
   intro e
   exact hz ⟨h1,by rw[<- nums_bi,head_at s (by omega),e]⟩
  clear hz
  go_enter Tryz.func151,Tryz.ntmps151
  go_wp2_with fail
  refine (K.out _).mono ?_
  rintro e w' ⟨rfl,H⟩
  go_wp2_with fail
  go_quiet (fail)
  go_wp2_with fail
  go_ret2
  exact ⟨rfl,H.out.trans ⟨rfl,rfl,rfl,Nat.le_refl _,fun _ _=>rfl⟩⟩
 ·have h1':¬ (1:Int)<(s.size:Int):=by omega
  clear hz
  go_enter Tryz.func151,Tryz.ntmps151
  go_wp2_with fail
  refine (K.out _).mono ?_
  rintro e w' ⟨rfl,H⟩
  go_wp2_with fail
  go_quiet (fail)
  go_wp2_with fail
  go_ret2
  exact ⟨rfl,H.out.trans ⟨rfl,rfl,rfl,Nat.le_refl _,fun _ _=>rfl⟩⟩
theorem num_no(B:Nat)(hB:B=8∨B=32)(s:ByteArray)(hs:s.size<=281474976710656)(h:xnum (nums s) (2 ^ B)=none)(w:World)(hE:LayE w) :
  Calls Tryz.prog 151 #[.string s,.int .i64 (B:Int)] w fun e w'=>∃x,e=.returned (.tuple #[.int .u32 x,.bool false])/\Hid (Below w.heap.size w w'):=by
 by_cases hz:1<s.data.toList.length/\(bi s.data.toList).head?=some 48
 ·have h1:1<s.size:=hz.1
  have h1':(1:Int)<(s.size:Int):=by omega
  have h0':(0:Int)<(s.size:Int):=by omega
  have h48:(s[0].toNat:Int)=48:=by
   have:=hz.2
   rw[<- nums_bi,head_at s (by omega)] at this
   injection this
  clear hz
  go_enter Tryz.func151,Tryz.ntmps151
  go_wp2_with fail
  go_ret2
  exact ⟨0,rfl,Below.refl _ _⟩
 ·have K:=Lib.hid (pu10_no B hB s hs (fun u hu=>by have:=(lnum_ok B (pow2B hB).1 _ u hz).1 hu;rw[<- nums_bi,h] at this;cases this) w hE)
  clear h hE
  by_cases h1:1<s.size
  ·have h1':(1:Int)<(s.size:Int):=by omega
   have h0':(0:Int)<(s.size:Int):=by omega
   have h48:((s[0].toNat:Int) == 48)=false:=by
    rw[beq_eq_false_iff_ne]
    intro e
    exact hz ⟨h1,by rw[<- nums_bi,head_at s (by omega),e]⟩
   clear hz
   go_enter Tryz.func151,Tryz.ntmps151
   go_wp2_with fail
   refine K.out.mono ?_
   rintro e w' ⟨x,N,rfl,hx,H⟩
   go_wp2_with fail
   go_quiet (fail)
   go_wp2_with fail
   go_ret2
   exact ⟨_,rfl,H.out.trans ⟨rfl,rfl,rfl,Nat.le_refl _,fun _ _=>rfl⟩⟩
  ·have h1':¬ (1:Int)<(s.size:Int):=by omega
   clear hz
   go_enter Tryz.func151,Tryz.ntmps151
   go_wp2_with fail
   refine K.out.mono ?_
   rintro e w' ⟨x,N,rfl,hx,H⟩
   go_wp2_with fail
   go_quiet (fail)
   go_wp2_with fail
   go_ret2
   exact ⟨_,rfl,H.out.trans ⟨rfl,rfl,rfl,Nat.le_refl _,fun _ _=>rfl⟩⟩
end Go.Proofs.YtjkljpdolhglcaaGreatDoor
namespace Go.Proofs.YtjkljpdolhglcaaGreatDoor
open Go.ChangeShapes Go.WideShapes Go.ChangeAt Go.RowKit
def rgo(l:List Int)(p:Nat)(out:List ByteArray):Option (List ByteArray × Nat):=
 if h:p<l.length/\l.getD p 0<=63 then
  if l.getD p 0=0 then some (out,p+1)
  else if (l.length:Int) - ((p:Int)+1)<l.getD p 0 then none
  else rgo l (p+1+(l.getD p 0).toNat) (out++[lb ((l.drop (p+1)).take (l.getD p 0).toNat)])
 else none
termination_by l.length - p
decreasing_by omega
def nread(l:List Int)(d:Int):List ByteArray × Int × Int:=
 if d<0∨(l.length:Int)<=d then ([],0,2)
 else match rgo l d.toNat [] with
  |none=>([],0,8)
  |some (out,q)=>if nck out=0 then (out,(q:Int),0) else ([],0,8)
theorem rgo_end(l:List Int)(p:Nat)(out:List ByteArray)(h:¬ (p<l.length/\l.getD p 0<=63)):rgo l p out=none:=by rw[rgo,dif_neg h]
theorem rgo_zero(l:List Int)(p:Nat)(out:List ByteArray)(h:p<l.length/\l.getD p 0<=63)(h0:l.getD p 0=0):rgo l p out=some (out,p+1):=by rw[rgo,dif_pos h,if_pos h0]
theorem rgo_short(l:List Int)(p:Nat)(out:List ByteArray)(h:p<l.length/\l.getD p 0<=63)(h0:¬ l.getD p 0=0)(h1:(l.length:Int) - ((p:Int)+1)<l.getD p 0):rgo l p out=none:=by rw[rgo,dif_pos h,if_neg h0,if_pos h1]
theorem rgo_step(l:List Int)(p:Nat)(out:List ByteArray)(h:p<l.length/\l.getD p 0<=63)(h0:¬ l.getD p 0=0)(h1:¬ (l.length:Int) - ((p:Int)+1)<l.getD p 0):rgo l p out=rgo l (p+1+(l.getD p 0).toNat) (out++[lb ((l.drop (p+1)).take (l.getD p 0).toNat)]):=by
 rw[rgo,dif_pos h,if_neg h0,if_neg h1]
def RPost(r:List ByteArray × Int × Int)(w:World)(e:Ending)(w':World):Prop:=
 ∃v ys,e=.returned (.tuple #[v,.int .i64 r.2.1,.int .i64 r.2.2])/\Hid (OwnT w.heap.size w' v r.1.length ys 1000000000000/\ys.take r.1.length=r.1/\Below w.heap.size w w')
theorem rpost_none{k:Int}{w w':World}{e:Ending}(he:e=.returned (.tuple #[.slice none 0 0,.int .i64 0,.int .i64 k]))(hb:Below w.heap.size w w'):RPost ([],0,k) w e w':=
 ⟨.slice none 0 0,[],he,OwnT.nil _ _ _,rfl,hb⟩
theorem fr_tx1(c:Int)(h:0<=c/\c<=255)(r:List Int):fr (tx1 c++r)=(c,((tx1 c).length:Int)):=by
 unfold tx1
 by_cases hu:c<33∨126<c
 ·rw[if_pos hu]
  have hv:v3 (48+c / 100) (48+c / 10 % 10) (48+c % 10)=c:=by unfold v3;omega
  have d1:dgt (48+c / 100)=true:=(dgt_iff _).2 (by omega)
  have d2:dgt (48+c / 10 % 10)=true:=(dgt_iff _).2 (by omega)
  have d3:dgt (48+c % 10)=true:=(dgt_iff _).2 (by omega)
  have hd:decide (c<=255)=true:=by simp[h.2]
  simp[fr,esc,num3,vis,d1,d2,d3,hv,h.2]
 ·rw[if_neg hu]
  rcases spc_cases c with hs|⟨hs,e1,e2,_⟩
  ·rcases hs with rfl|rfl|rfl|rfl|rfl|rfl|rfl|rfl <;> simp[fr,esc,spc,vis,dgt]
  ·rw[hs]
   have hv:vis c=true:=(vis_iff c).2 (by omega)
   have e2':¬ c=92:=by simpa using e2
   simp[fr,hv,e2']
theorem head_tx1(c:Int)(h:0<=c/\c<=255)(r:List Int):(tx1 c++r).getD 0 0≠46:=by
 unfold tx1
 by_cases hu:c<33∨126<c
 ·rw[if_pos hu];simp
 ·rw[if_neg hu]
  rcases spc_cases c with hs|⟨hs,e1,e2,_⟩
  ·rcases hs with rfl|rfl|rfl|rfl|rfl|rfl|rfl|rfl <;> simp[spc]
  ·rw[hs];simpa using e1
theorem go_tx(l:List Int):∀(P out R:List Int),(∀z∈l,0<=z/\z<=255)->(R=[]∨∃r,R=46::r)->go (P++(tx l++R)) P.length out=some (out++l,P.length+(tx l).length):=by
 induction l with
 |nil=>
  intro P out R _ hR
  rw[go_stop]
  ·simp[tx]
  ·rcases hR with rfl|⟨r,rfl⟩
   ·simp[tx]
   ·simp[tx,List.getD_eq_getElem?_getD]
 |cons c l ih=>
  intro P out R hb hR
  have hc:=hb c (by simp)
  have e:tx (c::l)++R=tx1 c++(tx l++R):=by simp[tx]
  have hd:(P++(tx1 c++(tx l++R))).drop P.length=tx1 c++(tx l++R):=by simp
  have hf:=fr_tx1 c hc (tx l++R)
  have hlen:=tx1_len c
  rw[e,go_step]
  ·rw[hd,hf]
   have:=ih (P++tx1 c) (out++[c]) R (fun z hz=>hb z (by simp[hz])) hR
   simp only[Int.toNat_natCast]
   rw[List.append_assoc,List.length_append] at this
   rw[this]
   simp[tx]
   omega
  ·refine ⟨by simp only[List.length_append];omega,?_⟩
   have:=head_tx1 c hc (tx l++R)
   rw[<- hd,show ((P++(tx1 c++(tx l++R))).drop P.length).getD 0 0=(P++(tx1 c++(tx l++R))).getD P.length 0 by rw[List.getD_eq_getElem?_getD,List.getD_eq_getElem?_getD,List.getElem?_drop,Nat.add_zero]] at this
   exact this
  ·rw[hd,hf];simp only;omega
theorem pres_tx(l R:List Int)(hb:∀z∈l,0<=z/\z<=255)(hR:R=[]∨∃r,R=46::r)(hl:1<=l.length/\l.length<=63):pres (tx l++R)=(l,((tx l).length:Int),0):=by
 have:=go_tx l [] [] R hb hR
 simp only[List.nil_append,List.length_nil,Nat.zero_add] at this
 exact pres_ok this (by unfold chk;rw[if_pos hl])
theorem nums_cat(a b:ByteArray):nums (a++b)=nums a++nums b:=by
 simp[nums]
theorem nums_back(l:List Int)(h:∀z∈l,0<=z/\z<=255):nums ⟨(txt l).toArray⟩=l:=by
 unfold nums txt
 simp only[List.map_map]
 conv=>rhs;rw[<- List.map_id l]
 apply List.map_congr_left
 intro z hz
 have:=h z hz
 simp
 omega
theorem txt_back(s:ByteArray):(⟨(txt (nums s)).toArray⟩:ByteArray)=s:=by
 have:txt (nums s)=s.data.toList:=by
  unfold nums txt
  rw[List.map_map]
  conv=>rhs;rw[<- List.map_id s.data.toList]
  apply List.map_congr_left
  intro b _
  simp
 rw[this]
def flat(l:List ByteArray):List Int:=l.flatMap fun s=>tx (nums s)++[46]
theorem nums_tb(s:ByteArray):nums (tb s)=tx (nums s):=nums_back _ (tx_bd _ (nums_all s))
theorem nums_ntxt(l:List ByteArray):nums (ntxt l)=flat l:=by
 have:∀(l:List ByteArray) (acc:ByteArray),nums (l.foldl (fun acc s=>acc++tb s++⟨#[46]⟩) acc)=nums acc++flat l:=by
  intro l
  induction l with
  |nil=>intro acc;simp[flat]
  |cons s l ih=>
   intro acc
   rw[List.foldl_cons,ih,nums_cat,nums_cat,nums_tb]
   simp[flat]
   rfl
 have h:=this l ⟨#[]⟩
 rw[show nums ⟨#[]⟩=[] from rfl,List.nil_append] at h
 exact h
theorem chk_ok{n:Nat}(h:chk n=0):1<=n/\n<=63:=by
 unfold chk at h
 split at h
 ·assumption
 ·cases h
theorem lgo_flat:∀(ss:List ByteArray) (out:List ByteArray),ss≠[]->labsOk ss->lgo (flat ss) out=(out++ss,true,0)
 |[],_,h,_=>absurd rfl h
 |s::r,out,_,hok=>by
  have hs:=chk_ok (hok s (by simp))
  have hf:flat (s::r)=tx (nums s)++(46::flat r):=by simp[flat]
  have hp:=pres_tx (nums s) (46::flat r) (nums_all s) (.inr ⟨_,rfl⟩) (by rw[nums_len];exact hs)
  rw[<- hf] at hp
  have hd:(flat (s::r)).drop ((tx (nums s)).length+1)=flat r:=by
   rw[hf,List.drop_append,List.drop_eq_nil_of_le (by omega),Nat.add_sub_cancel_left];rfl
  rw[lgo,hp]
  have hlb:lb (nums s)=s:=txt_back s
  simp only[if_true,Int.toNat_natCast,hd,hlb]
  rw[if_neg (by rw[hf,List.length_append];simp;omega)]
  by_cases hr:r=[]
  ·subst hr
   rw[dif_pos (by simp[flat])]
  ·have hne:¬ (flat r).length=0:=by
    obtain ⟨x,r',rfl⟩:=List.exists_cons_of_ne_nil hr
    simp[flat]
   rw[dif_neg hne,lgo_flat r (out++[s]) hr (fun x hx=>hok x (by simp[hx]))]
   simp
theorem ba_list(s:ByteArray):(nums s)=s.toList.map fun b=>(b.toNat:Int):=by rw[ba_toList];rfl
theorem flat_two(ss:List ByteArray)(h:ss≠[])(hok:labsOk ss):2<=(flat ss).length:=by
 obtain ⟨s,r,rfl⟩:=List.exists_cons_of_ne_nil h
 have hs:=chk_ok (hok s (by simp))
 have hne:nums s≠[]:=fun e=>by have:=nums_len s;rw[e] at this;simp at this;omega
 obtain ⟨c,l,hcl⟩:=List.exists_cons_of_ne_nil hne
 have h1:=tx1_len c
 have:1<=(tx (nums s)).length:=by rw[hcl];simp only[tx,List.flatMap_cons,List.length_append];omega
 simp only[flat,List.flatMap_cons,List.length_append,List.length_cons,List.length_nil]
 omega
theorem ntxt_not(ss:List ByteArray)(h:ss≠[])(hok:labsOk ss)(x:UInt8):¬ (ntxt ss).toList=[x]:=by
 intro e
 have h1:=flat_two ss h hok
 have h2:=nums_ntxt ss
 rw[ba_list,e] at h2
 have:=congrArg List.length h2
 simp at this
 omega
theorem parse_text(ss:List ByteArray)(h:nck ss=0):nparse (ntext ss).1=(ss,0):=by
 have hok:=(nck_small h).2
 unfold ntext
 rw[if_pos h]
 by_cases h0:ss=[]
 ·subst h0
  rw[if_pos (show ([]:List ByteArray).length=0 from rfl)]
  unfold nparse
  rw[if_pos (by rw[ba_toList])]
 ·have hl:¬ ss.length=0:=fun e=>h0 (List.eq_nil_of_length_eq_zero e)
  rw[if_neg hl]
  unfold nparse
  rw[if_neg (ntxt_not ss h0 hok 46)]
  simp only[nums_ntxt,lgo_flat ss [] h0 hok,List.nil_append,if_true,h]
theorem rel_text(ss og:List ByteArray)(h:nck ss=0)(hg:nck og=0):nrel (ntext ss).1 og=(ss,0):=by
 have hok:=(nck_small h).2
 have hp:=parse_text ss h
 unfold nrel
 rw[if_pos hg]
 unfold ntext at hp ⊢
 rw[if_pos h] at hp ⊢
 by_cases h0:ss=[]
 ·subst h0
  rw[if_pos (show ([]:List ByteArray).length=0 from rfl)]
  simp only
  rw[if_neg (by rw[ba_toList];decide),if_pos (by rw[ba_toList])]
 ·have hl:¬ ss.length=0:=fun e=>h0 (List.eq_nil_of_length_eq_zero e)
  rw[if_neg hl] at hp ⊢
  simp only at hp ⊢
  rw[if_neg (ntxt_not ss h0 hok 64),if_neg (ntxt_not ss h0 hok 46)]
  simp only[nums_ntxt,lgo_flat ss [] h0 hok,if_true,hp]
theorem rgo_nby:∀(ss:List ByteArray) (P R:List Int) (out:List ByteArray),labsOk ss->rgo (P++(nby ss++(0::R))) P.length out=some (out++ss,P.length+(nby ss).length+1)
 |[],P,R,out,_=>by
  rw[rgo_zero]
  ·simp[nby]
  ·simp[nby,List.getD_eq_getElem?_getD]
  ·simp[nby,List.getD_eq_getElem?_getD]
 |s::r,P,R,out,hok=>by
  have hs:=chk_ok (hok s (by simp))
  have hf:nby (s::r)++(0::R)=(s.size:Int)::(nums s++(nby r++(0::R))):=by simp[nby]
  have hg:(P++(nby (s::r)++(0::R))).getD P.length 0=(s.size:Int):=by
   rw[hf];simp[List.getD_eq_getElem?_getD]
  have hlen:(P++(nby (s::r)++(0::R))).length=P.length+(1+(s.size+((nby r).length+(1+R.length)))):=by
   rw[hf];simp[nums_len];omega
  have hd:((P++(nby (s::r)++(0::R))).drop (P.length+1)).take s.size=nums s:=by
   rw[hf,List.drop_append,List.drop_eq_nil_of_le (by omega),Nat.add_sub_cancel_left,List.nil_append]
   show (nums s++_).take s.size=nums s
   rw[List.take_append_of_le_length (by rw[nums_len];exact Nat.le_refl _),List.take_of_length_le (by rw[nums_len];exact Nat.le_refl _)]
  have hlb:lb (nums s)=s:=txt_back s
  rw[rgo_step _ _ _ ⟨by rw[hlen];omega,by rw[hg];omega⟩ (by rw[hg];omega) (by rw[hg,hlen];omega)]
  rw[hg,Int.toNat_natCast,hd,hlb]
  have ih:=rgo_nby r (P++((s.size:Int)::nums s)) R (out++[s]) (fun x hx=>hok x (by simp[hx]))
  have e1:P++(nby (s::r)++(0::R))=P++((s.size:Int)::nums s)++(nby r++(0::R)):=by rw[hf];simp
  have e2:(P++((s.size:Int)::nums s)).length=P.length+1+s.size:=by simp[nums_len];omega
  rw[e2] at ih
  rw[e1,ih]
  simp[nby,nums_len]
  omega
theorem psize_eq(a:Option Addr)(len cap:Nat)(ss:List ByteArray)(w:World)(hr:RdT w a ss)(hl:ss.length=len)(hm:nsz ss<=1000000000000000) :
  Calls Tryz.prog 32 #[.slice a len cap] w fun e w'=>e=.returned (.int .i64 (nsz ss))/\w'=w:=by
 have HR:Hid (RdT w a ss):=hr
 have HL:Hid (ss.length=len):=hl
 have hln:len<=9223372036854775807:=by have:=nsz_len ss;omega
 obtain ⟨T,hT⟩:∃T,nsz ss=T:=⟨_,rfl⟩
 have HT:Hid (nsz ss=T):=hT
 rw[hT] at hm ⊢
 clear hr hl hT
 go_enter Tryz.func32,Tryz.ntmps32
 go_wp2_with fail
 go_loop [3,8] (fun n x=>∃k m:Nat,k<=len/\m<=T/\x=.int .i64 k/\n=.int .i64 m/\Hid (nsz (ss.take k)=m)) (fun _ x=>len - (intOf x).toNat)
 case atStart=>exact ⟨0,1,Nat.zero_le _,by rw[<- HT.out];exact nsz_le ss 0,rfl,rfl,rfl⟩
 case round=>
  obtain ⟨k,m,hk,hmT,rfl,rfl,HM⟩:=hrel
  by_cases hlt:k<len
  ·have hlt':(k:Int)<(len:Int):=by omega
   have hks:k<ss.length:=by rw[HL.out];exact hlt
   obtain ⟨b,o,rfl,hb,hc⟩:=HR.out.at k hks
   have hn:nsz (ss.take (k+1))=m+ss[k].size+1:=by rw[take_snocT ss k hks,nsz_snoc,HM.out]
   have hle:=nsz_le ss (k+1)
   rw[hn,HT.out] at hle
   have HN:Hid (nsz (ss.take (k+1))=m+ss[k].size+1):=hn
   clear hn
   generalize ss[k]=s at*
   go_wp2
   go_round
   case rel=>exact ⟨k+1,m+s.size+1,by omega,hle,by go_num,by go_num,HN⟩
   case measure=>simp[intOf];omega
  ·have hge:(len:Int)<=(k:Int):=by omega
   have e:m=T:=by rw[<- HM.out,<- HT.out,List.take_of_length_le (by rw[HL.out];omega)]
   subst e
   go_wp2
   go_ret
   exact ⟨rfl,rfl⟩
theorem pcheck_eq(a:Option Addr)(len cap:Nat)(ss:List ByteArray)(w:World)(hr:RdT w a ss)(hl:ss.length=len)(hm:nsz ss<=1000000000000000)(hlen:len<=9223372036854775807)(hz:∀s∈ss,s.size<=9223372036854775807) :
  Calls Tryz.prog 17 #[.slice a len cap] w fun e w'=>e=.returned (.int .i64 (nck ss))/\w'=w:=by
 have HR:Hid (RdT w a ss/\∀s∈ss,s.size<=9223372036854775807):=⟨hr,hz⟩
 have HL:Hid (ss.length=len):=hl
 have HS:Hid (∀W,RdT W a ss->Calls Tryz.prog 32 #[.slice a len cap] W fun e w'=>e=.returned (.int .i64 (nsz ss))/\w'=W):=fun W hW=>psize_eq a len cap ss W hW hl hm
 obtain ⟨T,hT⟩:∃T,nsz ss=T:=⟨_,rfl⟩
 have HT:Hid (nsz ss=T):=hT
 rw[hT] at hm HS
 clear hr hl hT hz
 go_enter Tryz.func17,Tryz.ntmps17
 go_wp2_with fail
 go_loopw [8] (fun x wr=>∃k:Nat,k<=len/\x=.int .i64 k/\wr=w/\Hid (∀i (h:i<ss.length),i<k->chk ss[i].size=0)) (fun x _=>len - (intOf x).toNat)
 case atStart=>exact ⟨0,Nat.zero_le _,rfl,rfl,fun i _ h=>absurd h (by omega)⟩
 case round=>
  obtain ⟨k,hk,rfl,rfl,HK⟩:=hrel
  by_cases hlt:k<len
  ·have hlt':(k:Int)<(len:Int):=by omega
   have hks:k<ss.length:=by rw[HL.out];exact hlt
   obtain ⟨b,o,rfl,hb,hc⟩:=HR.out.1.at k hks
   have HC:Hid (∀W,Calls Tryz.prog 31 #[.string ss[k]] W fun e w'=>e=.returned (.int .i64 (chk ss[k].size))/\w'=W):=fun W=>chk_any ss[k] W (HR.out.2 _ (List.getElem_mem hks))
   rcases chk_cases ss[k].size with hk0|hk4
   ·have HN:Hid (∀i (h:i<ss.length),i<k+1->chk ss[i].size=0):=by
     intro i h hi
     by_cases e:i=k
     ·subst e;exact hk0
     ·exact HK.out i h (by omega)
    rw[hk0] at HC
    clear hk0 HK
    generalize ss[k]=s at*
    go_wp2_with fail
    refine (HC.out _).mono ?_
    rintro e w1 ⟨rfl,rfl⟩
    go_wp2
    exact ⟨⟨k+1,by omega,by go_num,trivial,HN⟩,by simp[intOf];omega⟩
   ·have HE:Hid (nck ss=4):=by
     show nck ss=4
     unfold nck
     rw[if_neg (fun h=>by have:=h _ (List.getElem_mem hks);rw[hk4] at this;cases this)]
    rw[hk4] at HC
    clear hk4 HK
    generalize ss[k]=s at*
    go_wp2_with fail
    refine (HC.out _).mono ?_
    rintro e w1 ⟨rfl,rfl⟩
    go_wp2
    go_ret
    exact ⟨by rw[HE.out];rfl,rfl⟩
  ·have hge:(len:Int)<=(k:Int):=by omega
   have HO:Hid (labsOk ss):=by
    intro s hs
    obtain ⟨i,hi,rfl⟩:=List.getElem_of_mem hs
    exact HK.out i hi (by have:=HL.out;omega)
   by_cases hb:255<T
   ·have HE:Hid (nck ss=5):=by show nck ss=5;unfold nck;rw[if_pos HO.out,HT.out,if_pos hb]
    have hb':(255:Int)<(T:Int):=by omega
    clear HK HO
    go_wp2_with fail
    refine (HS.out _ HR.out.1).mono ?_
    rintro e w1 ⟨rfl,rfl⟩
    go_wp2
    go_ret
    exact ⟨by rw[HE.out];rfl,rfl⟩
   ·have HE:Hid (nck ss=0):=by show nck ss=0;unfold nck;rw[if_pos HO.out,HT.out,if_neg hb]
    have hb':¬ (255:Int)<(T:Int):=by omega
    clear HK HO
    go_wp2_with fail
    refine (HS.out _ HR.out.1).mono ?_
    rintro e w1 ⟨rfl,rfl⟩
    go_wp2
    go_ret
    exact ⟨by rw[HE.out];rfl,rfl⟩
theorem pm_check{a:Option Addr}{n:Nat}{ss:List ByteArray}{w:World}(c:Nat)(h:Nm w a n ss):Calls Tryz.prog 17 #[.slice a n c] w fun e w'=>e=.returned (.int .i64 (nck ss))/\w'=w:=
 pcheck_eq a n c ss w h.rd h.len (by have:=h.sz;omega) (by have:=h.n63;omega) (fun s hs=>by have:=h.mem s hs;omega)
theorem pcopy_eq(a:Option Addr)(cap len:Nat)(ss:List ByteArray)(M:Nat)(w:World)(hr:RdT w a ss)(hl:ss.length=len)(hM:∀s∈ss,s.size<=M)(hm:len<=8796093022000) :
  Calls Tryz.prog 107 #[.slice a len cap] w (CopyPost ss M w):=by
 have HR:Hid (RdT w a ss/\∀s∈ss,s.size<=M):=⟨hr,hM⟩
 have HL:Hid (ss.length=len):=hl
 clear hr hl hM
 go_enter Tryz.func107,Tryz.ntmps107
 go_wp2_with (at_builtin;refine wpList_append_T tyN _ rfl _ _ 23 9 Tryz.underlying23 rfl w.heap.size _ 0 [] M rfl (OwnT.nil _ _ _) a len cap ss rfl HR.out.1 HL.out HR.out.2 (by omega) (Nat.le_refl _) ?_;intro v' w' ys hO hT hG)
 go_ret
 refine ⟨v',ys,rfl,?_,?_,?_⟩
 ·have h:=hO.out
  rw[Nat.zero_add,<- HL.out] at h
  exact h
 ·have h:=hT.out
  rw[Nat.zero_add,<- HL.out] at h
  simpa using h
 ·exact (Below.refl _ _).grown hG (Nat.le_refl _) (by intro k hk;cases hk)
theorem pm_copy{a:Option Addr}{n:Nat}{ss:List ByteArray}{w:World}(c:Nat)(h:Nm w a n ss):Calls Tryz.prog 107 #[.slice a n c] w (CopyPost ss 1000000000000 w):=
 pcopy_eq a c n ss 1000000000000 w h.rd h.len h.mem (by have:=h.n63;omega)
theorem pcopy_any(a:Option Addr)(n c:Nat)(ss:List ByteArray)(w:World)(h:Nm w a n ss):Calls Tryz.prog 107 #[.slice a n c] w (CopyPost ss 1000000000000 w):=pm_copy c h
def GrowPost(w:World)(e:Ending)(w':World):Prop:=∃v ys,e=.returned v/\Hid (OwnT w.heap.size w' v 0 ys 1000000000000/\Below w.heap.size w w')
theorem grow_any(N:Nat)(w:World)(hN:N<=8796093022000):Calls Tryz.prog 49 #[.slice none 0 0,.int .i64 N] w (GrowPost w):=by
 by_cases h0:N=0
 ·subst h0
  go_enter Tryz.func49,Tryz.ntmps49
  go_wp2
  go_ret
  exact ⟨_,[],rfl,OwnT.nil _ _ _,Below.refl _ _⟩
 ·obtain ⟨i,hi,hz0,hz1,hz2⟩:=info_parts tyN.hi
  have hr:∀ty,(Builtin.append_ #[23,3] ty #[.slice none 0 0,.int .i64 N]).run Tryz.prog w=.ok (.slice (some ⟨w.heap.size,0,none⟩) N (grownCap w N 0 9)) (w.drew.alloc (.cells (tv (List.replicate (grownCap w N 0 9) ⟨#[]⟩)).toArray 9)):=by
   intro ty
   have hge:=grownCap_ge w N 0 9
   have h:=Lib.run_append_grow_zeros w 23 3 ty 9 i (.string ⟨#[]⟩) .i64 .i64 Tryz.underlying23 (by kernel_rfl) hi hz0 none 0 0 [] (run_firstCells_none w.drew i.size 0 0 0) N (by omega) (by omega) (by omega) (by omega) (by rw[hz2];omega) (growslice_fits (by omega) (by rw[hz2];omega))
   simp only[Nat.zero_add] at h
   rw[h,zeros_eq1 _ tyN.hz,zeros_eq1 _ tyN.hz]
   have e:(([]:List Value).toArray++(List.replicate N (Value.string ⟨#[]⟩)).toArray++(List.replicate (grownCap w N 0 9 - N) (Value.string ⟨#[]⟩)).toArray)=(tv (List.replicate (grownCap w N 0 9) ⟨#[]⟩)).toArray:=by
    simp only[tv,List.map_replicate,List.append_toArray,List.nil_append,List.replicate_append_replicate]
    congr 2
    omega
   rw[e]
  have hG1:=grownCap_ge w N 0 9
  have hG2:=grownCap_le_maxLen w N 0 9 (by unfold maxLen;omega)
  generalize grownCap w N 0 9=G at*
  have HP:Hid (OwnT w.heap.size (w.drew.alloc (.cells (tv (List.replicate G ⟨#[]⟩)).toArray 9)) (.slice (some ⟨w.heap.size,0,none⟩) 0 G) 0 (List.replicate G ⟨#[]⟩) 1000000000000/\Below w.heap.size w (w.drew.alloc (.cells (tv (List.replicate G ⟨#[]⟩)).toArray 9))):=by
   refine ⟨⟨.inr ⟨w.heap.size,by simp[tv],Nat.le_refl _,heap_alloc_new w.drew _,Nat.zero_le _,by simpa [tv] using hG2⟩,?_⟩,(Below.refl _ _).drew.alloc (Nat.le_refl _) _⟩
   intro s hs
   rw[List.eq_of_mem_replicate hs]
   exact Nat.zero_le _
  unfold maxLen at hG2
  have hn:¬ (N:Int)<0:=by omega
  have hp:(0:Int)<(N:Int):=by omega
  generalize w.drew.alloc (.cells (tv (List.replicate G ⟨#[]⟩)).toArray 9)=W2 at*
  clear hi hz0 hz1 hz2
  have HR:Hid (∀ty,(Builtin.append_ #[23,3] ty #[.slice none 0 0,.int .i64 N]).run Tryz.prog w=.ok (.slice (some ⟨w.heap.size,0,none⟩) N G) W2):=hr
  clear hr
  go_enter Tryz.func49,Tryz.ntmps49
  go_wp2_with (at_builtin;refine Lib.wpList_append_run _ rfl _ _ _ _ rfl _ _ rfl rfl _ _ (HR.out _) ?_)
  go_ret
  exact ⟨_,_,rfl,HP⟩
theorem concat_any(g:Nat)(a b:Option Addr)(n m c d:Nat)(ss ts:List ByteArray)(w:World)(hg:g<w.heap.size)(c0:w.cell? ⟨g,0,none⟩=some (.slice a n c))(c1:w.cell? ⟨g,1,none⟩=some (.slice b m d))(h:Nm w a n ss)(h':Nm w b m ts) :
  Calls Tryz.prog 29 #[.slice (some ⟨g,0,none⟩) 2 2] w (CopyPost (ss++ts) 1000000000000 w):=by
 have HN:Hid (Nm w a n ss/\Nm w b m ts):=⟨h,h'⟩
 have HL:Hid (ss.length=n/\ts.length=m):=⟨h.len,h'.len⟩
 have hn:=h.n63
 have hm:=h'.n63
 clear h h'
 go_enter Tryz.func29,Tryz.ntmps29
 go_wp2_with fail
 go_loopw [3,11] (fun z x wr=>∃k q:Nat,z=.int .i64 q/\x=.int .i64 k/\wr=w/\Hid ((k=0/\q=0)∨(k=1/\q=n)∨(k=2/\q=n+m))) (fun _ x _=>2 - (intOf x).toNat)
 case atStart=>exact ⟨0,0,rfl,rfl,rfl,.inl ⟨rfl,rfl⟩⟩
 case round=>
  obtain ⟨k,q,rfl,rfl,rfl,HK⟩:=hrel
  rcases HK.out with ⟨rfl,rfl⟩|⟨rfl,rfl⟩|⟨rfl,rfl⟩
  ·clear HK
   have hq:¬ (n:Int)<0:=by omega
   go_wp2
   exact ⟨⟨1,n,by go_num,rfl,trivial,.inr (.inl ⟨rfl,rfl⟩)⟩,by simp[intOf]⟩
  ·clear HK
   have hq:¬ ((q:Int)+(m:Int))<0:=by omega
   go_wp2
   exact ⟨⟨2,q+m,by go_num,rfl,trivial,.inr (.inr ⟨rfl,rfl⟩)⟩,by simp[intOf]⟩
  ·clear HK
   go_wp2_with fail
   refine (grow_any (n+m) wr (by omega)).mono ?_
   rintro e w1 ⟨v,ys,rfl,H1⟩
   have c0':=(H1.out.2.cell (p:=⟨g,0,none⟩) hg).trans c0
   have c1':=(H1.out.2.cell (p:=⟨g,1,none⟩) hg).trans c1
   obtain ⟨wz,hwz⟩:∃x,x=wr:=⟨_,rfl⟩
   subst hwz
   have HC:Hid (w1.cell? ⟨g,0,none⟩=some (.slice a n c)/\w1.cell? ⟨g,1,none⟩=some (.slice b m d)/\g<w1.heap.size):=⟨c0',c1',Nat.lt_of_lt_of_le hg H1.out.2.size⟩
   clear c0 c1 c0' c1'
   go_wp2_with fail
   go_loopw [6,27] (fun v x wr=>∃(k:Nat),x=.int .i64 k/\Hid ((k=0/\∃ys,OwnT wz.heap.size wr v 0 ys 1000000000000/\ys.take 0=[])∨(k=1/\∃ys,OwnT wz.heap.size wr v n ys 1000000000000/\ys.take n=ss)∨(k=2/\∃ys,OwnT wz.heap.size wr v (n+m) ys 1000000000000/\ys.take (n+m)=ss++ts))/\Hid (Below wz.heap.size wz wr/\wr.cell? ⟨g,0,none⟩=some (.slice a n c)/\wr.cell? ⟨g,1,none⟩=some (.slice b m d))) (fun _ x _=>2 - (intOf x).toNat)
   case atStart=>exact ⟨0,rfl,.inl ⟨rfl,ys,H1.out.1,rfl⟩,H1.out.2,HC.out.1,HC.out.2.1⟩
   case round=>
    clear H1 HC
    obtain ⟨k,rfl,HK,HB⟩:=hrel
    have c0:=HB.out.2.1
    have c1:=HB.out.2.2
    rcases HK.out with ⟨rfl,zs,h1,h2⟩|⟨rfl,zs,h1,h2⟩|⟨rfl,zs,h1,h2⟩
    ·have HO:Hid (OwnT wz.heap.size wr u6 0 zs 1000000000000/\zs.take 0=[]/\RdT wr a ss/\∀s∈ss,s.size<=1000000000000):=⟨h1,h2,HN.out.1.rd.below HB.out.1,HN.out.1.mem⟩
     have HC:Hid (wr.cell? ⟨g,0,none⟩=some (.slice a n c)/\wr.cell? ⟨g,1,none⟩=some (.slice b m d)):=⟨c0,c1⟩
     clear HK h1 h2 c1
     go_wp2_with (at_builtin;refine wpList_append_T tyN _ rfl _ _ 23 9 Tryz.underlying23 rfl wz.heap.size _ 0 zs 1000000000000 rfl HO.out.1 a n c ss rfl HO.out.2.2.1 HL.out.1 HO.out.2.2.2 (by omega) HB.out.1.size ?_;intro v' w' ys' hO' hT' hG')
     have hne:∀j,u6.ownBlock=some j->wz.heap.size<=j:=HO.out.1.1.lt
     refine ⟨⟨1,by go_num,.inr (.inl ⟨rfl,ys',by simpa using hO'.out,by simpa using hT'.out⟩),HB.out.1.grown hG' HB.out.1.size hne,?_,?_⟩,by simp[intOf]⟩
     ·exact (World.cell?_of_block (hG'.block g (Nat.lt_of_lt_of_le hg HB.out.1.size) (fun e=>by have:=hne g e.symm;omega))).trans HC.out.1
     ·exact (World.cell?_of_block (hG'.block g (Nat.lt_of_lt_of_le hg HB.out.1.size) (fun e=>by have:=hne g e.symm;omega))).trans HC.out.2
    ·have HO:Hid (OwnT wz.heap.size wr u6 n zs 1000000000000/\zs.take n=ss/\RdT wr b ts/\∀s∈ts,s.size<=1000000000000):=⟨h1,h2,HN.out.2.rd.below HB.out.1,HN.out.2.mem⟩
     have HC:Hid (wr.cell? ⟨g,0,none⟩=some (.slice a n c)/\wr.cell? ⟨g,1,none⟩=some (.slice b m d)):=⟨c0,c1⟩
     clear HK h1 h2 c0
     go_wp2_with (at_builtin;refine wpList_append_T tyN _ rfl _ _ 23 9 Tryz.underlying23 rfl wz.heap.size _ n zs 1000000000000 rfl HO.out.1 b m d ts rfl HO.out.2.2.1 HL.out.2 HO.out.2.2.2 (by omega) HB.out.1.size ?_;intro v' w' ys' hO' hT' hG')
     have hne:∀j,u6.ownBlock=some j->wz.heap.size<=j:=HO.out.1.1.lt
     refine ⟨⟨2,by go_num,.inr (.inr ⟨rfl,ys',hO'.out,by rw[hT'.out,HO.out.2.1]⟩),HB.out.1.grown hG' HB.out.1.size hne,?_,?_⟩,by simp[intOf]⟩
     ·exact (World.cell?_of_block (hG'.block g (Nat.lt_of_lt_of_le hg HB.out.1.size) (fun e=>by have:=hne g e.symm;omega))).trans HC.out.1
     ·exact (World.cell?_of_block (hG'.block g (Nat.lt_of_lt_of_le hg HB.out.1.size) (fun e=>by have:=hne g e.symm;omega))).trans HC.out.2
    ·have HF:Hid (OwnT wz.heap.size wr u6 (ss++ts).length zs 1000000000000/\zs.take (ss++ts).length=ss++ts/\Below wz.heap.size wz wr):=by
      rw[List.length_append,HL.out.1,HL.out.2]
      exact ⟨h1,h2,HB.out.1⟩
     clear HK h1 h2 c0 c1
     go_wp2
     go_ret
     exact ⟨_,zs,rfl,HF⟩
theorem may_ok(a:Option Addr)(n c:Nat)(ss:List ByteArray)(w:World)(h:Nm w a n ss)(hk:nck ss=0):Calls Tryz.prog 28 #[.slice a n c] w fun e w'=>e=.returned (.tuple #[.slice a n c,.int .i64 0])/\w'=w:=by
 have K1:Hid (Calls Tryz.prog 17 #[.slice a n c] w fun e w'=>e=.returned (.int .i64 (nck ss))/\w'=w):=pm_check c h
 rw[hk] at K1
 clear h hk
 go_enter Tryz.func28,Tryz.ntmps28
 go_wp2_with fail
 refine K1.out.mono ?_
 rintro e w1 ⟨rfl,rfl⟩
 go_wp2
 go_ret2
 exact ⟨rfl,rfl⟩
theorem may_no(a:Option Addr)(n c:Nat)(ss:List ByteArray)(w:World)(h:Nm w a n ss)(hk:¬ nck ss=0):Calls Tryz.prog 28 #[.slice a n c] w fun e w'=>e=.returned (.tuple #[.slice none 0 0,.int .i64 (nck ss)])/\w'=w:=by
 have K1:Hid (Calls Tryz.prog 17 #[.slice a n c] w fun e w'=>e=.returned (.int .i64 (nck ss))/\w'=w):=pm_check c h
 generalize nck ss=q at*
 have hq:(q != 0)=true:=bne_iff_ne.2 hk
 clear h hk
 go_enter Tryz.func28,Tryz.ntmps28
 go_wp2_with fail
 refine K1.out.mono ?_
 rintro e w1 ⟨rfl,rfl⟩
 go_wp2
 go_ret2
 exact ⟨rfl,rfl⟩
theorem may_own(B:Nat)(w0:World)(a:Option Addr)(n c:Nat)(ss ys:List ByteArray)(w:World)(hl:ss.length=n)(ho:OwnT B w (.slice a n c) n ys 1000000000000)(ht:ys.take n=ss)(hz:nsz ss<=1000000000000)(hb:Below B w0 w)(hB:B=w0.heap.size) :
  Calls Tryz.prog 28 #[.slice a n c] w fun e w'=>NPost (if nck ss=0 then ss else []) (nck ss) w0 e w':=by
 have hn:Nm w a n ss:=⟨by have:=ho.rd n;rw[ht] at this;exact this,hl,hz⟩
 subst hB
 by_cases hk:nck ss=0
 ·rw[if_pos hk,hk]
  refine (may_ok a n c ss w hn hk).mono ?_
  rintro e w' ⟨rfl,rfl⟩
  exact ⟨_,ys,rfl,by rw[hl];exact ho,by rw[hl];exact ht,hb⟩
 ·rw[if_neg hk]
  refine (may_no a n c ss w hn hk).mono ?_
  rintro e w' ⟨rfl,rfl⟩
  exact npost_none rfl hb
theorem nck_cat{a b:List ByteArray}(h:nck a=0)(h':nck b=0):nck (a++b)=0∨nck (a++b)=5:=by
 have h1:=(nck_small h).2
 have h2:=(nck_small h').2
 have:labsOk (a++b):=by
  intro s hs
  rcases List.mem_append.1 hs with hs|hs
  ·exact h1 s hs
  ·exact h2 s hs
 unfold nck
 rw[if_pos this]
 by_cases hz:255<nsz (a++b)
 ·rw[if_pos hz];exact .inr rfl
 ·rw[if_neg hz];exact .inl rfl
theorem pjoin_any(a b:Option Addr)(n m c d:Nat)(ss ts:List ByteArray)(w:World)(h:Nm w a n ss)(h':Nm w b m ts):Calls Tryz.prog 13 #[.slice a n c,.slice b m d] w (NPost (njoin ss ts).1 (njoin ss ts).2 w):=by
 have K1:Hid (Calls Tryz.prog 17 #[.slice a n c] w fun e w'=>e=.returned (.int .i64 (nck ss))/\w'=w):=pm_check c h
 have K2:Hid (Calls Tryz.prog 17 #[.slice b m d] w fun e w'=>e=.returned (.int .i64 (nck ts))/\w'=w):=pm_check d h'
 by_cases hk:nck ss=0
 ·rw[hk] at K1
  by_cases hk2:nck ts=0
  ·rw[hk2] at K2
   have z1:=nck_small hk
   have z2:=nck_small hk2
   have hJ:nsz (ss++ts)<=1000000000000:=by have:=nsz_append ss ts;omega
   have hlen:(ss++ts).length=n+m:=by rw[List.length_append,h.len,h'.len]
   have hj:njoin ss ts=(if nck (ss++ts)=0 then ss++ts else [],nck (ss++ts)):=by
    unfold njoin
    rw[if_pos hk,if_pos hk2]
    rcases nck_cat hk hk2 with e|e
    ·rw[if_pos e,if_pos e,e]
    ·rw[if_neg (by omega),if_neg (by omega),e]
   rw[hj]
   have hb:Below w.heap.size w (w.alloc (.cells #[.slice a n c,.slice b m d] 23)):=(Below.refl _ _).alloc (Nat.le_refl _) _
   have KC:Hid (Calls Tryz.prog 29 #[.slice (some ⟨w.heap.size,0,none⟩) 2 2] (w.alloc (.cells #[.slice a n c,.slice b m d] 23)) (CopyPost (ss++ts) 1000000000000 (w.alloc (.cells #[.slice a n c,.slice b m d] 23)))):=
    concat_any w.heap.size a b n m c d ss ts _ (by simp) (by simp[go_sem]) (by simp[go_sem]) (h.below hb) (h'.below hb)
   have KM:Hid (∀W v ys,OwnT w.heap.size W v (ss++ts).length ys 1000000000000->ys.take (ss++ts).length=ss++ts->Below w.heap.size w W->∃ao,v=.slice ao (n+m) ys.length/\Calls Tryz.prog 28 #[.slice ao (n+m) ys.length] W fun e w'=>NPost (if nck (ss++ts)=0 then ss++ts else []) (nck (ss++ts)) w e w'):=by
    intro W v ys ho ht hB
    obtain ⟨ao,hv,_⟩:=ho.shape
    rw[hlen] at hv ho ht
    subst hv
    exact ⟨ao,rfl,may_own w.heap.size w ao (n+m) ys.length (ss++ts) ys W hlen ho ht hJ hB rfl⟩
   have HB:Hid (Below w.heap.size w (w.alloc (.cells #[.slice a n c,.slice b m d] 23))):=hb
   clear h h' hk hk2 z1 z2 hj hb hJ hlen
   generalize (if nck (ss++ts)=0 then ss++ts else [])=R at*
   generalize nck (ss++ts)=q at*
   go_enter Tryz.func13,Tryz.ntmps13
   go_wp2_with fail
   refine K1.out.mono ?_
   rintro e w1 ⟨rfl,rfl⟩
   go_wp2_with fail
   refine K2.out.mono ?_
   rintro e w1 ⟨rfl,rfl⟩
   go_wp2_with fail
   refine KC.out.mono ?_
   rintro e w2 ⟨v,ys,rfl,H2⟩
   have hB2:Below w1.heap.size w1 w2:=HB.out.trans (H2.out.2.2.mono HB.out.size)
   obtain ⟨ao,rfl,K3⟩:=KM.out w2 v ys (H2.out.1.mono (by simp)) H2.out.2.1 hB2
   have HK3:Hid (Calls Tryz.prog 28 #[.slice ao (n+m) ys.length] w2 fun e w'=>NPost R q w1 e w'):=K3
   clear K1 K2 KC KM H2 hB2 HB K3
   go_wp2_with fail
   refine HK3.out.mono ?_
   rintro e w3 ⟨v,zs,rfl,H3⟩
   go_wp2
   go_ret2
   exact ⟨v,zs,rfl,H3⟩
  ·have hj:njoin ss ts=([],nck ts):=by unfold njoin;rw[if_pos hk,if_neg hk2]
   rw[hj]
   generalize nck ts=q at*
   have hq:(q != 0)=true:=bne_iff_ne.2 hk2
   clear h h' hk hj hk2
   go_enter Tryz.func13,Tryz.ntmps13
   go_wp2_with fail
   refine K1.out.mono ?_
   rintro e w1 ⟨rfl,rfl⟩
   go_wp2_with fail
   refine K2.out.mono ?_
   rintro e w1 ⟨rfl,rfl⟩
   go_wp2
   go_ret2
   exact npost_none rfl (Below.refl _ _)
 ·have hj:njoin ss ts=([],nck ss):=by unfold njoin;rw[if_neg hk]
  rw[hj]
  generalize nck ss=q at*
  have hq:(q != 0)=true:=bne_iff_ne.2 hk
  clear h h' hk hj K2
  go_enter Tryz.func13,Tryz.ntmps13
  go_wp2_with fail
  refine K1.out.mono ?_
  rintro e w1 ⟨rfl,rfl⟩
  go_wp2
  go_ret2
  exact npost_none rfl (Below.refl _ _)
theorem go_dot(l:List Int)(hb:∀z∈l,0<=z/\z<=255):∀(n p:Nat) (out o:List Int) (q:Nat),l.length - p<=n->p<=l.length->go l p out=some (o,q)->q<l.length->l.getD q 0=46:=by
 intro n
 induction n with
 |zero=>
  intro p out o q hn hp h hq
  have hpe:¬ (p<l.length/\l.getD p 0≠46):=by omega
  rw[go_stop l p out hpe] at h
  cases h
  omega
 |succ n ih=>
  intro p out o q hn hp h hq
  by_cases hc:p<l.length/\l.getD p 0≠46
  ·have hbd:=fr_bd (l.drop p) (fun z hz=>hb z (List.mem_of_mem_drop hz)) (by simp;omega)
   by_cases h0:(fr (l.drop p)).2<=0
   ·rw[go_bad l p out hc h0] at h;cases h
   ·rw[go_step l p out hc h0] at h
    have hl:((l.drop p).length:Int)=(l.length:Int) - (p:Int):=by simp;omega
    exact ih _ _ o q (by omega) (by omega) h hq
  ·rw[go_stop l p out hc] at h
   cases h
   by_cases h46:l.getD p 0=46
   ·exact h46
   ·exact absurd ⟨hq,h46⟩ hc
theorem pres_dot (l : List Int) (hb : ∀ z ∈ l, 0 <= z /\ z <= 255) (p : Nat) (h : (pres l).2.2 = 0) (hp : (pres l).2.1 = (p : Int)) (hl : p < l.length) : l.getD p 0 = 46 := by
  unfold pres at h hp
  cases hg : go l 0 [] with
  | none => rw [hg] at h; cases h
  | some r =>
    obtain ⟨o, q⟩ := r
    rw [hg] at h hp
    dsimp only at h hp
    by_cases hc : 1 <= o.length /\ o.length <= 63
    · rw [if_pos hc] at hp
      have e : q = p := by have : (q : Int) = (p : Int) := by simpa using hp
                           omega
      subst e
      exact go_dot l hb l.length 0 [] o q (by omega) (by omega) hg hl
    · rw [if_neg hc] at h
      exact absurd h (by decide)
theorem hasp_no(t:ByteArray)(w:World)(h:t.size=0):Calls Tryz.prog 42 #[.string t,.string ⟨#[46]⟩] w fun e w'=>e=.returned (.bool false)/\w'=w:=by
 go_enter Tryz.func42,Tryz.ntmps42
 go_wp2
 go_ret
 exact ⟨rfl,rfl⟩
theorem hasp_yes(t:ByteArray)(w:World)(h:1<=t.size)(hm:t.size<=9223372036854775807)(h46:t.extract 0 1=⟨#[46]⟩):Calls Tryz.prog 42 #[.string t,.string ⟨#[46]⟩] w fun e w'=>e=.returned (.bool true)/\w'=w:=by
 have h1:(1:Int)<=(t.size:Int):=by omega
 go_enter Tryz.func42,Tryz.ntmps42
 go_wp2
 go_ret
 exact ⟨rfl,rfl⟩
theorem cut1_no(t:ByteArray)(w:World)(h:t.size=0):Calls Tryz.prog 146 #[.string t,.string ⟨#[46]⟩] w fun e w'=>e=.returned (.tuple #[.string t,.bool false])/\w'=w:=by
 have K:Hid (∀W,Calls Tryz.prog 42 #[.string t,.string ⟨#[46]⟩] W fun e w'=>e=.returned (.bool false)/\w'=W):=fun W=>hasp_no t W h
 clear h
 go_enter Tryz.func146,Tryz.ntmps146
 go_wp2_with fail
 refine (K.out _).mono ?_
 rintro e w1 ⟨rfl,rfl⟩
 go_wp2
 go_ret2
 exact ⟨rfl,rfl⟩
theorem cut_no(t:ByteArray)(w:World)(h:t.size=0):Calls Tryz.prog 129 #[.string t,.string ⟨#[46]⟩] w fun e w'=>e=.returned (.tuple #[.string t,.bool false])/\w'=w:=by
 have K:Hid (∀W,Calls Tryz.prog 146 #[.string t,.string ⟨#[46]⟩] W fun e w'=>e=.returned (.tuple #[.string t,.bool false])/\w'=W):=fun W=>cut1_no t W h
 clear h
 go_enter Tryz.func129,Tryz.ntmps129
 go_wp2_with fail
 refine (K.out _).mono ?_
 rintro e w1 ⟨rfl,rfl⟩
 go_wp2
 go_ret2
 exact ⟨rfl,rfl⟩
theorem cut1_yes(t:ByteArray)(w:World)(h:1<=t.size)(hm:t.size<=9223372036854775807)(h46:t.extract 0 1=⟨#[46]⟩):Calls Tryz.prog 146 #[.string t,.string ⟨#[46]⟩] w fun e w'=>e=.returned (.tuple #[.string (t.extract 1 t.size),.bool true])/\w'=w:=by
 have K:Hid (∀W,Calls Tryz.prog 42 #[.string t,.string ⟨#[46]⟩] W fun e w'=>e=.returned (.bool true)/\w'=W):=fun W=>hasp_yes t W h hm h46
 have h1:(1:Int)<=(t.size:Int):=by omega
 clear h46
 go_enter Tryz.func146,Tryz.ntmps146
 go_wp2_with fail
 refine (K.out _).mono ?_
 rintro e w1 ⟨rfl,rfl⟩
 go_wp2
 go_ret2
 exact ⟨rfl,rfl⟩
theorem cut_yes(t:ByteArray)(w:World)(h:1<=t.size)(hm:t.size<=9223372036854775807)(h46:t.extract 0 1=⟨#[46]⟩):Calls Tryz.prog 129 #[.string t,.string ⟨#[46]⟩] w fun e w'=>e=.returned (.tuple #[.string (t.extract 1 t.size),.bool true])/\w'=w:=by
 have K:Hid (∀W,Calls Tryz.prog 146 #[.string t,.string ⟨#[46]⟩] W fun e w'=>e=.returned (.tuple #[.string (t.extract 1 t.size),.bool true])/\w'=W):=fun W=>cut1_yes t W h hm h46
 generalize t.extract 1 t.size=q at*
 clear h46
 go_enter Tryz.func129,Tryz.ntmps129
 go_wp2_with fail
 refine (K.out _).mono ?_
 rintro e w1 ⟨rfl,rfl⟩
 go_wp2
 go_ret2
 exact ⟨rfl,rfl⟩
theorem nums_inj{a b:ByteArray}(h:nums a=nums b):a=b:=by rw[<- txt_back a,<- txt_back b,h]
theorem nums_extract2(s:ByteArray)(p q:Nat):nums (s.extract p q)=((nums s).take q).drop p:=by
 simp only[nums,ByteArray.data_extract,Array.toList_extract,List.map_drop,List.map_take,List.extract]
 rw[List.drop_take]
theorem head_dot(t:ByteArray)(h:1<=t.size)(h46:(nums t).getD 0 0=46):t.extract 0 1=⟨#[46]⟩:=by
 apply nums_inj
 rw[nums_extract2]
 have hl:=nums_len t
 cases hn:nums t with
 |nil=>rw[hn] at hl;simp at hl;omega
 |cons x l=>
  rw[hn] at h46
  have e:x=46:=by simpa using h46
  subst e
  rfl
def plab(s:ByteArray):List ByteArray × Bool × Int:=if s.toList=[46] then ([],true,0) else lgo (nums s) []
theorem plabels_any(s:ByteArray)(w:World)(hs:s.size<=1000000000):Calls Tryz.prog 108 #[.string s] w (LPost (plab s) w):=by
 by_cases hd:s.toList=[46]
 ·have hp:plab s=([],true,0):=by unfold plab;rw[if_pos hd]
  rw[hp]
  clear hp
  go_enter Tryz.func108,Tryz.ntmps108
  go_wp2
  go_ret3
  exact ⟨.slice none 0 0,[],rfl,OwnT.nil _ _ _,rfl,Below.refl _ _⟩
 have hp:plab s=lgo (nums s) []:=by unfold plab;rw[if_neg hd]
 rw[hp]
 have hdf:(s.toList == [46])=false:=by simpa using hd
 obtain ⟨R,hR⟩:∃R,lgo (nums s) []=R:=⟨_,rfl⟩
 have HR0:Hid (lgo (nums s) []=R):=hR
 rw[hR]
 clear hR hp hd
 go_enter Tryz.func108,Tryz.ntmps108
 go_wp2_with fail
 go_loopw [0,5] (fun x v wr=>∃(t:ByteArray) (out:List ByteArray),x=.string t/\t.size<=1000000000/\out.length+t.size<=1000000000/\Hid (lgo (nums t) out=R)/\Hid (∃ys,OwnT w.heap.size wr v out.length ys 1000000000000/\ys.take out.length=out)/\Hid (Below w.heap.size w wr)) (fun x _ _=>match x with | .string t=>t.size|_=>0)
 case atStart=>exact ⟨s,[],rfl,hs,by simpa using hs,HR0,⟨[],OwnT.nil _ _ _,rfl⟩,Below.refl _ _⟩
 case round=>
  clear hdf
  obtain ⟨t,out,rfl,htz,hout,HK,HW,HB⟩:=hrel
  have KP:Hid (∀W,Calls Tryz.prog 128 #[.string t] W fun e w'=>e=.returned (.tuple #[.string (lb (pres (nums t)).1),.int .i64 (pres (nums t)).2.1,.int .i64 (pres (nums t)).2.2])/\Hid (Below W.heap.size W w')):=fun W=>parse_any t W (by omega)
  have HU:Hid (lgo (nums t) out=if (pres (nums t)).2.2=0 then (if (pres (nums t)).2.1=(t.size:Int) then (out++[lb (pres (nums t)).1],false,0) else if ((nums t).drop ((pres (nums t)).2.1.toNat+1)).length=0 then (out++[lb (pres (nums t)).1],true,0) else lgo ((nums t).drop ((pres (nums t)).2.1.toNat+1)) (out++[lb (pres (nums t)).1])) else ([],false,(pres (nums t)).2.2)):=by
   show _=_
   rw[lgo,nums_len]
   split <;> rfl
  by_cases h0:(pres (nums t)).2.2=0
  ·obtain ⟨p,hp,hpl,hl1,hl2⟩:=pres_le (nums t) (nums_all t) h0
   rw[nums_len] at hpl
   have hlz:(lb (pres (nums t)).1).size<=1000000000000:=by rw[lb_size];omega
   have hdot:p<t.size->(nums t).getD p 0=46:=fun h=>pres_dot (nums t) (nums_all t) p h0 hp (by rw[nums_len];exact h)
   rw[h0,if_pos rfl,hp,Int.toNat_natCast] at HU
   rw[h0,hp] at KP
   generalize lb (pres (nums t)).1=f at*
   clear h0 hp hl1 hl2
   have hpI:(p:Int)<=(t.size:Int):=by omega
   have hz1:(t.extract p t.size).size=t.size - p:=by simp
   have HN1:Hid (nums (t.extract p t.size)=(nums t).drop p):=nums_extract t p
   by_cases hpt:p=t.size
   ·have e:R=(out++[f],false,0):=by rw[<- HK.out,HU.out,if_pos (by omega)]
    subst e
    have KC:Hid (∀W,Calls Tryz.prog 129 #[.string (t.extract p t.size),.string ⟨#[46]⟩] W fun e w'=>e=.returned (.tuple #[.string (t.extract p t.size),.bool false])/\w'=W):=fun W=>cut_no _ W (by rw[hz1];omega)
    have hze:((t.extract p t.size).toList == [])=true:=by
     have:(t.extract p t.size).toList=[]:=by rw[ba_toList];exact List.eq_nil_of_length_eq_zero (by have:(t.extract p t.size).data.toList.length=(t.extract p t.size).size:=rfl;omega)
     rw[this];rfl
    clear HU HK HR0 hdot hz1 HN1 hpt
    go_wp2_with fail
    refine (KP.out _).mono ?_
    rintro e w1 ⟨rfl,H1⟩
    obtain ⟨ys,hO,hT⟩:=HW.out
    have hnb:Below wr.heap.size wr (w1.alloc (.cells #[.string f] 9)):=H1.out.alloc H1.out.size _
    have HO2:Hid (OwnT w.heap.size (w1.alloc (.cells #[.string f] 9)) u5 out.length ys 1000000000000/\ys.take out.length=out):=⟨hO.below hnb,hT⟩
    have HNB:Hid (Below wr.heap.size wr (w1.alloc (.cells #[.string f] 9))):=hnb
    clear hO hT hnb KP
    go_wp2_with (at_builtin;refine wpList_append_T tyN _ rfl _ _ 23 9 Tryz.underlying23 rfl w.heap.size _ out.length ys 1000000000000 rfl HO2.out.1 (some ⟨w1.heap.size,0,none⟩) 1 1 [f] rfl (one_rdT w1 f) rfl (by intro s hs;simp at hs;subst hs;exact hlz) (by omega) (Nat.le_trans HB.out.size HNB.out.size) ?_;intro v' w' ys' hO' hT' hG';have HB2:Hid (Below w.heap.size w w'):=((HB.out.trans (HNB.out.mono HB.out.size)).grown hG' (Nat.le_trans HB.out.size HNB.out.size) HO2.out.1.1.lt);clear hG')
    refine (KC.out _).mono ?_
    rintro e w3 ⟨rfl,rfl⟩
    clear KC
    go_wp2
    go_ret3
    refine ⟨v',ys',rfl,?_,?_,HB2.out⟩
    ·rw[List.length_append];exact hO'.out
    ·rw[List.length_append];exact hT'.out.trans (by rw[HO2.out.2])
   ·have hp1:p+1<=t.size:=by omega
    have h46:(t.extract p t.size).extract 0 1=⟨#[46]⟩:=by
     refine head_dot _ (by rw[hz1];omega) ?_
     rw[HN1.out,List.getD_eq_getElem?_getD,List.getElem?_drop,Nat.add_zero,<- List.getD_eq_getElem?_getD]
     exact hdot (by omega)
    have KC:Hid (∀W,Calls Tryz.prog 129 #[.string (t.extract p t.size),.string ⟨#[46]⟩] W fun e w'=>e=.returned (.tuple #[.string ((t.extract p t.size).extract 1 (t.extract p t.size).size),.bool true])/\w'=W):=fun W=>cut_yes _ W (by rw[hz1];omega) (by rw[hz1];omega) h46
    have HN2:Hid (nums ((t.extract p t.size).extract 1 (t.extract p t.size).size)=(nums t).drop (p+1)):=by
     show _=_
     rw[nums_extract,HN1.out,List.drop_drop]
    have hz2:((t.extract p t.size).extract 1 (t.extract p t.size).size).size=t.size - (p+1):=by
     have:=congrArg List.length HN2.out
     rw[nums_len,List.length_drop,nums_len] at this
     exact this
    generalize (t.extract p t.size).extract 1 (t.extract p t.size).size=L at*
    rw[if_neg (by omega),List.length_drop,nums_len] at HU
    clear h46 hdot hz1 HN1
    by_cases hp2:p+1=t.size
    ·have e:R=(out++[f],true,0):=by rw[<- HK.out,HU.out,if_pos (by omega)]
     subst e
     have hze:(L.toList == [])=true:=by
      have:L.toList=[]:=by rw[ba_toList];exact List.eq_nil_of_length_eq_zero (by have:L.data.toList.length=L.size:=rfl;omega)
      rw[this];rfl
     clear HU HK HR0 HN2 hz2 hp2
     go_wp2_with fail
     refine (KP.out _).mono ?_
     rintro e w1 ⟨rfl,H1⟩
     obtain ⟨ys,hO,hT⟩:=HW.out
     have hnb:Below wr.heap.size wr (w1.alloc (.cells #[.string f] 9)):=H1.out.alloc H1.out.size _
     have HO2:Hid (OwnT w.heap.size (w1.alloc (.cells #[.string f] 9)) u5 out.length ys 1000000000000/\ys.take out.length=out):=⟨hO.below hnb,hT⟩
     have HNB:Hid (Below wr.heap.size wr (w1.alloc (.cells #[.string f] 9))):=hnb
     clear hO hT hnb KP
     go_wp2_with (at_builtin;refine wpList_append_T tyN _ rfl _ _ 23 9 Tryz.underlying23 rfl w.heap.size _ out.length ys 1000000000000 rfl HO2.out.1 (some ⟨w1.heap.size,0,none⟩) 1 1 [f] rfl (one_rdT w1 f) rfl (by intro s hs;simp at hs;subst hs;exact hlz) (by omega) (Nat.le_trans HB.out.size HNB.out.size) ?_;intro v' w' ys' hO' hT' hG';have HB2:Hid (Below w.heap.size w w'):=((HB.out.trans (HNB.out.mono HB.out.size)).grown hG' (Nat.le_trans HB.out.size HNB.out.size) HO2.out.1.1.lt);clear hG')
     refine (KC.out _).mono ?_
     rintro e w3 ⟨rfl,rfl⟩
     clear KC
     go_wp2
     go_ret3
     refine ⟨v',ys',rfl,?_,?_,HB2.out⟩
     ·rw[List.length_append];exact hO'.out
     ·rw[List.length_append];exact hT'.out.trans (by rw[HO2.out.2])
    ·have HK2:Hid (lgo (nums L) (out++[f])=R):=by
      show _=_
      rw[HN2.out,<- HK.out,HU.out,if_neg (by omega)]
     have hze:(L.toList == [])=false:=by
      cases hL:L.toList with
      |nil=>
       have:L.size=0:=by
        have h:=congrArg List.length hL
        rw[ba_toList] at h
        exact h
       omega
      |cons x l=>rfl
     clear HU HK HR0 HN2
     go_wp2_with fail
     refine (KP.out _).mono ?_
     rintro e w1 ⟨rfl,H1⟩
     obtain ⟨ys,hO,hT⟩:=HW.out
     have hnb:Below wr.heap.size wr (w1.alloc (.cells #[.string f] 9)):=H1.out.alloc H1.out.size _
     have HO2:Hid (OwnT w.heap.size (w1.alloc (.cells #[.string f] 9)) u5 out.length ys 1000000000000/\ys.take out.length=out):=⟨hO.below hnb,hT⟩
     have HNB:Hid (Below wr.heap.size wr (w1.alloc (.cells #[.string f] 9))):=hnb
     clear hO hT hnb KP
     go_wp2_with (at_builtin;refine wpList_append_T tyN _ rfl _ _ 23 9 Tryz.underlying23 rfl w.heap.size _ out.length ys 1000000000000 rfl HO2.out.1 (some ⟨w1.heap.size,0,none⟩) 1 1 [f] rfl (one_rdT w1 f) rfl (by intro s hs;simp at hs;subst hs;exact hlz) (by omega) (Nat.le_trans HB.out.size HNB.out.size) ?_;intro v' w' ys' hO' hT' hG';have HB2:Hid (Below w.heap.size w w'):=((HB.out.trans (HNB.out.mono HB.out.size)).grown hG' (Nat.le_trans HB.out.size HNB.out.size) HO2.out.1.1.lt);clear hG')
     refine (KC.out _).mono ?_
     rintro e w3 ⟨rfl,rfl⟩
     clear KC
     go_wp2
     refine ⟨⟨L,out++[f],rfl,by omega,by rw[List.length_append,hz2];show out.length+1+_<=_;omega,HK2,⟨ys',?_,?_⟩,HB2⟩,by simp only[hz2];omega⟩
     ·rw[List.length_append];exact hO'.out
     ·rw[List.length_append];exact hT'.out.trans (by rw[HO2.out.2])
  ·have e:R=([],false,(pres (nums t)).2.2):=by rw[<- HK.out,HU.out,if_neg h0]
   subst e
   generalize (pres (nums t)).2.2=q at*
   have hq:(q != 0)=true:=bne_iff_ne.2 h0
   clear HU HK HR0 h0
   go_wp2_with fail
   refine (KP.out _).mono ?_
   rintro e w1 ⟨rfl,H1⟩
   go_wp2
   go_ret3
   exact ⟨.slice none 0 0,[],rfl,OwnT.nil _ _ _,rfl,HB.out.trans (H1.out.mono HB.out.size)⟩
theorem rd_all{w:World}{ao:Option Addr}{news:List Int}(hr:Rd w ao news):∀z∈news,0<=z/\z<=255:=by
 intro z hz
 obtain ⟨i,hi,rfl⟩:=List.getElem_of_mem hz
 have:=hr.bd i
 rw[List.getD_eq_getElem?_getD,List.getElem?_eq_getElem hi] at this
 exact this
end Go.Proofs.YtjkljpdolhglcaaGreatDoor
namespace Go.Proofs.YtjkljpdolhglcaaGreatDoor
open Go.ChangeShapes Go.WideShapes Go.ChangeAt Go.RowKit Go.Sort
def xfst:List Int->Int × Nat
 |[]=>(0,0)
 |c::l=>if c≠92 then (c,1) else (match l with
  |[]=>(0,0)
  |d::r=>if xdig d=false then (d,2) else (match r with
   |e::f::q=>if xdig e=true/\xdig f=true/\100*(d - 48)+10*(e - 48)+(f - 48)<=255 then (100*(d - 48)+10*(e - 48)+(f - 48),4) else (0,0)
   |_=>(0,0)))
theorem xfst_none(l:List Int)(hl:l≠[])(h:(xfst l).2=0):xstr l=none:=by
 match l,hl with
 |c::l,_=>
  rw[xstr.eq_def]
  simp only[xfst] at h
  by_cases hc:c=92
  ·subst hc
   simp only[ne_eq,not_true,if_false] at h
   simp only[if_true]
   match l with
   |[]=>rfl
   |d::r=>
    simp only at h ⊢
    by_cases hd:xdig d=false
    ·rw[if_pos hd] at h;simp at h
    ·have hd':xdig d=true:=by simpa using hd
     rw[if_neg hd] at h
     rw[if_pos hd']
     match r with
     |[]=>rfl
     |[e]=>rfl
     |e::f::q=>
      simp only at h ⊢
      rw[if_neg]
      intro hh
      simp only[Bool.and_eq_true,decide_eq_true_eq] at hh
      rw[if_pos ⟨hh.1.1,hh.1.2,hh.2⟩] at h
      simp at h
  ·simp only[ne_eq,hc,not_false_eq_true,if_true] at h
   simp at h
theorem xfst_some(l:List Int)(h:(xfst l).2≠0):xstr l=(xstr (l.drop (xfst l).2)).map (fun o=>(xfst l).1::o)/\1<=(xfst l).2/\(xfst l).2<=l.length:=by
 match l with
 |[]=>simp[xfst] at h
 |c::l=>
  simp only[xfst] at h ⊢
  by_cases hc:c=92
  ·subst hc
   simp only[ne_eq,not_true,if_false] at h ⊢
   match l with
   |[]=>simp at h
   |d::r=>
    simp only at h ⊢
    by_cases hd:xdig d=false
    ·rw[if_pos hd,xstr_esc d r hd]
     simp
    ·have hd':xdig d=true:=by simpa using hd
     rw[if_neg hd] at h ⊢
     match r with
     |[]=>simp at h
     |[e]=>simp at h
     |e::f::q=>
      simp only at h ⊢
      by_cases hh:xdig e=true/\xdig f=true/\100*(d - 48)+10*(e - 48)+(f - 48)<=255
      ·rw[if_pos hh,xstr_num d e f q hd' hh.1 hh.2.1 hh.2.2]
       simp
      ·rw[if_neg hh] at h;simp at h
  ·simp only[ne_eq,hc,not_false_eq_true,if_true]
   rw[xstr_plain c l hc]
   simp
theorem xfst_bd(l:List Int)(hb:∀z∈l,0<=z/\z<=255):0<=(xfst l).1/\(xfst l).1<=255:=by
 match l with
 |[]=>simp[xfst]
 |c::l=>
  simp only[xfst]
  have h1:=hb c (by simp)
  by_cases hc:c=92
  ·subst hc
   simp only[ne_eq,not_true,if_false]
   match l with
   |[]=>simp
   |d::r=>
    simp only
    have h2:=hb d (by simp)
    by_cases hd:xdig d=false
    ·rw[if_pos hd];exact h2
    ·have hd':xdig d=true:=by simpa using hd
     rw[if_neg hd]
     match r with
     |[]=>simp
     |[e]=>simp
     |e::f::q=>
      simp only
      by_cases hh:xdig e=true/\xdig f=true/\100*(d - 48)+10*(e - 48)+(f - 48)<=255
      ·rw[if_pos hh]
       simp[xdig] at hd' hh
       simp only
       omega
      ·rw[if_neg hh];simp
  ·simp only[ne_eq,hc,not_false_eq_true,if_true]
   exact h1
theorem ldig_any(c:Int)(w:World):Calls Tryz.prog 206 #[.int .u8 c] w fun e w'=>e=.returned (.bool (xdig c))/\w'=w:=by
 go_enter Tryz.func206,Tryz.ntmps206
 by_cases h1:(48:Int)<=c
 ·by_cases h2:c<=(57:Int)
  ·have e:xdig c=true:=by simp[xdig,h1,h2]
   rw[e]
   go_wp2_with fail
   go_ret
   exact ⟨rfl,rfl⟩
  ·have e:xdig c=false:=by simp[xdig,h2]
   rw[e]
   go_wp2_with fail
   go_ret
   exact ⟨rfl,rfl⟩
 ·have e:xdig c=false:=by simp[xdig,h1]
  rw[e]
  go_wp2_with fail
  go_ret
  exact ⟨rfl,rfl⟩
theorem numb_yes(s:ByteArray)(h3:s.size=3)(u:Nat)(hu:u<=255)(h:Lib.parseUintB 8 s.data.toList=.ok u)(w:World) :
  Calls Tryz.prog 207 #[.string s] w fun e w'=>e=.returned (.tuple #[.int .u8 (u:Int),.int .i64 4])/\Hid (Below w.heap.size w w'):=by
 have K:=Lib.hid (pu10_ok 8 (.inl rfl) s (by omega) u h w)
 clear h
 have hu':(u:Int)<=255:=by omega
 go_enter Tryz.func207,Tryz.ntmps207
 go_wp2_with fail
 refine K.out.mono ?_
 rintro e w' ⟨rfl,H⟩
 go_wp2_with fail
 go_ret2
 refine ⟨?_,H.out⟩
 first|rfl|(simp[h3];done)|(rw[h3];rfl)
theorem numb_no(s:ByteArray)(hs:s.size<=281474976710656)(h:∀u,Lib.parseUintB 8 s.data.toList≠.ok u)(w:World)(hE:LayE w) :
  Calls Tryz.prog 207 #[.string s] w fun e w'=>e=.returned (.tuple #[.int .u8 0,.int .i64 0])/\Hid (Below w.heap.size w w'):=by
 have K:=Lib.hid (pu10_no 8 (.inl rfl) s hs h w hE)
 clear h hE
 go_enter Tryz.func207,Tryz.ntmps207
 go_wp2_with fail
 refine K.out.mono ?_
 rintro e w' ⟨x,N,rfl,_,H⟩
 go_wp2_with fail
 go_ret2
 exact ⟨rfl,H.out⟩
theorem nums_from(s:ByteArray)(p:Nat)(h:p<s.size):(nums s).drop p=(s[p].toNat:Int)::(nums s).drop (p+1):=by
 rw[List.drop_eq_getElem_cons (by rw[nums_len];exact h)]
 congr 1
 have:=nums_at s p h
 rw[List.getD_eq_getElem?_getD,List.getElem?_eq_getElem (by rw[nums_len];exact h)] at this
 simpa using this
theorem nums_end(s:ByteArray)(p:Nat)(h:s.size<=p):(nums s).drop p=[]:=List.drop_eq_nil_of_le (by rw[nums_len];exact h)
theorem nums_three(s:ByteArray)(h:3<s.size):(s.extract 1 4).data.toList=[s[1],s[2],s[3]]:=by
 apply bi_inj
 rw[<- nums_bi,nums_extract2]
 have e:nums s=(s[0].toNat:Int)::(s[1].toNat:Int)::(s[2].toNat:Int)::(s[3].toNat:Int)::(nums s).drop 4:=by
  have h0:nums s=(nums s).drop 0:=rfl
  rw[h0,nums_from s 0 (by omega),nums_from s 1 (by omega),nums_from s 2 (by omega),nums_from s 3 (by omega)]
  rfl
 rw[e]
 rfl
def F1(s:ByteArray)(c:Int)(n:Nat):Prop:=xfst (nums s)=(c,n)
theorem first_any(s:ByteArray)(h0:0<s.size)(hs:s.size<=281474976710656)(w:World)(hE:LayE w) :
  Calls Tryz.prog 188 #[.string s] w fun e w'=>∃(c:Int) (n:Nat),e=.returned (.tuple #[.int .u8 c,.int .i64 (n:Int)])/\Hid (F1 s c n)/\Hid (Below w.heap.size w w'):=by
 have HE:Hid (LayE w):=hE
 clear hE
 have h0':(0:Int)<(s.size:Int):=by omega
 have hbd0:=nums_bd s 0
 rw[nums_at s 0 h0] at hbd0
 have e0:nums s=(s[0].toNat:Int)::(nums s).drop 1:=nums_from s 0 h0
 by_cases h92:(s[0].toNat:Int)=92
 ·have h92b:((s[0].toNat:Int) != 92)=false:=by simp[h92]
  rw[h92] at e0
  by_cases h1:1<s.size
  ·have h1':(1:Int)<(s.size:Int):=by omega
   have hbd1:=nums_bd s 1
   rw[nums_at s 1 h1] at hbd1
   rw[nums_from s 1 h1] at e0
   by_cases hd:xdig (s[1].toNat:Int)=true
   ·by_cases h3:3<s.size
    ·have h3':(3:Int)<(s.size:Int):=by omega
     rw[nums_from s 2 (by omega),nums_from s 3 h3] at e0
     have e3:=nums_three s h3
     have hsz:(s.extract 1 4).size=3:=by rw[ByteArray.size_extract];omega
     by_cases hok:∃u,Lib.parseUintB 8 (s.extract 1 4).data.toList=.ok u
     ·obtain ⟨u,hu⟩:=hok
      have hu2:=hu
      rw[e3,three_ok] at hu2
      obtain ⟨_,d2,d3,hv,hu255⟩:=hu2
      have HF:Hid (F1 s u 4):=by
       show xfst (nums s)=_
       rw[e0]
       simp only[xfst]
       rw[if_neg (by simp),if_neg (by rw[hd];simp),if_pos ⟨d2,d3,by omega⟩,hv]
      have K:=Lib.hid (fun W=>numb_yes (s.extract 1 4) hsz u hu255 hu W)
      have KD:=Lib.hid (fun W=>ldig_any (s[1].toNat:Int) W)
      rw[hd] at KD
      clear e0 e3 hu hv d2 d3 hd hsz HE
      go_enter Tryz.func188,Tryz.ntmps188
      go_wp2_with (go_at_call 206;refine (KD.out _).mono ?_;rintro e w' ⟨rfl,hw⟩;subst w')
      refine (K.out _).mono ?_
      rintro e w' ⟨rfl,H⟩
      go_wp2_with fail
      go_ret2
      exact ⟨_,4,rfl,HF,H.out⟩
     ·have hno:∀u,Lib.parseUintB 8 (s.extract 1 4).data.toList≠.ok u:=fun u hu=>hok ⟨u,hu⟩
      have HF:Hid (F1 s 0 0):=by
       show xfst (nums s)=_
       rw[e0]
       simp only[xfst]
       rw[if_neg (by simp),if_neg (by rw[hd];simp),if_neg]
       rintro ⟨d2,d3,hv⟩
       have b2:48<=(s[2].toNat:Int)/\(s[2].toNat:Int)<=57:=by simpa [xdig] using d2
       have b3:48<=(s[3].toNat:Int)/\(s[3].toNat:Int)<=57:=by simpa [xdig] using d3
       have b1:48<=(s[1].toNat:Int)/\(s[1].toNat:Int)<=57:=by simpa [xdig] using hd
       refine hno (100*((s[1].toNat:Int) - 48)+10*(s[2].toNat - 48)+(s[3].toNat - 48):Int).toNat ?_
       rw[e3,three_ok]
       exact ⟨hd,d2,d3,by omega,by omega⟩
      have K:=Lib.hid (numb_no (s.extract 1 4) (by rw[hsz];omega) hno w HE.out)
      have KD:=Lib.hid (fun W=>ldig_any (s[1].toNat:Int) W)
      rw[hd] at KD
      clear e0 e3 hd hsz HE hno hok
      go_enter Tryz.func188,Tryz.ntmps188
      go_wp2_with (go_at_call 206;refine (KD.out _).mono ?_;rintro e w' ⟨rfl,hw⟩;subst w')
      refine K.out.mono ?_
      rintro e w' ⟨rfl,H⟩
      go_wp2_with fail
      go_ret2
      exact ⟨_,0,rfl,HF,H.out⟩
    ·have h3':¬ (3:Int)<(s.size:Int):=by omega
     have HF:Hid (F1 s 0 0):=by
      show xfst (nums s)=_
      rw[e0]
      simp only[xfst]
      rw[if_neg (by simp),if_neg (by rw[hd];simp)]
      have hl:((nums s).drop (1+1)).length<=1:=by rw[List.length_drop,nums_len];omega
      generalize (nums s).drop (1+1)=r at hl
      match r,hl with
      |[],_=>rfl
      |[a],_=>rfl
      |a::b::c,hl=>simp at hl
     have KD:=Lib.hid (fun W=>ldig_any (s[1].toNat:Int) W)
     rw[hd] at KD
     clear e0 hd HE
     go_enter Tryz.func188,Tryz.ntmps188
     go_wp2_with (go_at_call 206;refine (KD.out _).mono ?_;rintro e w' ⟨rfl,hw⟩;subst w')
     go_ret2
     exact ⟨_,0,rfl,HF,Below.refl _ _⟩
   ·have hdf:xdig (s[1].toNat:Int)=false:=by simpa using hd
    have HF:Hid (F1 s (s[1].toNat:Int) 2):=by
     show xfst (nums s)=_
     rw[e0]
     simp only[xfst]
     rw[if_neg (by simp),if_pos hdf]
    have KD:=Lib.hid (fun W=>ldig_any (s[1].toNat:Int) W)
    rw[hdf] at KD
    clear e0 hd HE hdf
    go_enter Tryz.func188,Tryz.ntmps188
    go_wp2_with (go_at_call 206;refine (KD.out _).mono ?_;rintro e w' ⟨rfl,hw⟩;subst w')
    go_ret2
    exact ⟨_,2,rfl,HF,Below.refl _ _⟩
  ·have h1':¬ (1:Int)<(s.size:Int):=by omega
   have h3':¬ (3:Int)<(s.size:Int):=by omega
   have HF:Hid (F1 s 0 0):=by
    show xfst (nums s)=_
    rw[e0,nums_end s 1 (by omega)]
    simp only[xfst]
    rw[if_neg (by simp)]
   clear e0 HE
   go_enter Tryz.func188,Tryz.ntmps188
   go_wp2_with fail
   go_ret2
   exact ⟨_,0,rfl,HF,Below.refl _ _⟩
 ·have h92b:((s[0].toNat:Int) != 92)=true:=by simp[h92]
  have HF:Hid (F1 s (s[0].toNat:Int) 1):=by
   show xfst (nums s)=_
   rw[e0]
   simp only[xfst]
   rw[if_pos h92]
  clear e0 HE h92
  go_enter Tryz.func188,Tryz.ntmps188
  go_wp2_with fail
  go_ret2
  exact ⟨_,1,rfl,HF,Below.refl _ _⟩
def xstrR(l:List Int):ByteArray × Int:=match xstr l with|some o=>(lb o,0)|none=>(⟨#[]⟩,7)
theorem xstrR_none{l:List Int}(h:xstr l=none):xstrR l=(⟨#[]⟩,7):=by unfold xstrR;rw[h]
theorem xstrR_some{l o:List Int}(h:xstr l=some o):xstrR l=(lb o,0):=by unfold xstrR;rw[h]
def strSz:Value->Nat | .string t=>t.size|_=>0
def StB(s t:ByteArray)(out:List Int):Prop:=xstr (nums s)=(xstr (nums t)).map (fun o=>out++o)
theorem string_any(s:ByteArray)(w:World)(hs:s.size<=140737488355328)(hE:LayE w) :
  Calls Tryz.prog 174 #[.string s] w fun e w'=>e=.returned (.tuple #[.string (xstrR (nums s)).1,.int .i64 (xstrR (nums s)).2])/\Hid (Below w.heap.size w w'):=by
 have HE:Hid (LayE w):=hE
 clear hE
 have H0:Hid (Own w.heap.size (w.alloc (.cells (Array.replicate s.size (Value.int .u8 0)) 5)) (.slice (some ⟨w.heap.size,0,none⟩) 0 s.size) 0 (List.replicate s.size 0)/\Below w.heap.size w (w.alloc (.cells (Array.replicate s.size (Value.int .u8 0)) 5))):=by
  have e:Array.replicate s.size (Value.int .u8 0)=((List.replicate s.size (0:Int)).map (Value.int .u8)).toArray:=by simp
  rw[e]
  refine ⟨.inr ⟨w.heap.size,by simp,Nat.le_refl _,⟨heap_alloc_new _ _,fun z hz=>?_⟩,Nat.zero_le _,by simp[maxLen];omega⟩,(Below.refl _ _).alloc (Nat.le_refl _) _⟩
  rw[List.mem_replicate] at hz
  omega
 go_enter Tryz.func174,Tryz.ntmps174
 go_wp2_with (at_make;refine wpList_make_blk _ rfl _ _ rfl 0 s.size _ _ rfl rfl rfl rfl (Nat.zero_le _) (by omega) ?_)
 generalize (w.alloc (.cells (Array.replicate s.size (Value.int .u8 0)) 5))=wa at*
 go_loopw [0,4] (fun x v wr=>∃(t:ByteArray) (out:List Int),x=.string t/\out.length+t.size<=s.size/\Hid (StB s t out)/\Hid (∃ys,Own w.heap.size wr v out.length ys/\ys.take out.length=out)/\Hid (Below w.heap.size w wr)) (fun x _ _=>strSz x)
 case atStart=>exact ⟨s,[],rfl,by simp,(by show _=_;simp),⟨_,H0.out.1,by simp⟩,H0.out.2⟩
 case round=>
  clear H0
  obtain ⟨t,out,rfl,hle,HS,HW,HB⟩:=hrel
  by_cases h0:0<t.size
  ·have h0':(0:Int)<(t.size:Int):=by omega
   go_wp2_with fail
   refine (first_any t h0 (by omega) wr (HE.out.below HB.out)).mono ?_
   rintro e w1 ⟨c,n,rfl,HF,H1⟩
   have HB1:Hid (Below w.heap.size w w1):=HB.out.trans (H1.out.mono HB.out.size)
   by_cases hn:n=0
   ·subst hn
    have HQ:Hid (xstrR (nums s)=(⟨#[]⟩,7)):=by
     refine xstrR_none ?_
     have h1:xstr (nums t)=none:=xfst_none _ (fun e=>by have:=nums_len t;rw[e] at this;simp at this;omega) (by rw[HF.out])
     have h2:=HS.out
     unfold StB at h2
     rw[h2,h1];rfl
    go_wp2_with fail
    go_ret2
    exact ⟨by rw[HQ.out];rfl,HB1.out⟩
   ·have hn':¬ (n:Int)=0:=by omega
    have hn2:((n:Int) == 0)=false:=by rw[beq_eq_false_iff_ne];exact hn'
    have hq:=xfst_some (nums t) (by rw[HF.out];exact hn)
    have hbd:=xfst_bd (nums t) (nums_all' t)
    rw[HF.out] at hq hbd
    simp only at hq hbd
    rw[nums_len] at hq
    obtain ⟨hq1,hq2,hq3⟩:=hq
    have hq3':(n:Int)<=(t.size:Int):=by omega
    have HS2:Hid (StB s (t.extract n t.size) (out++[c])):=by
     have h2:=HS.out
     show _=_
     unfold StB at h2
     rw[h2,hq1,nums_extract,Option.map_map]
     congr 1
     funext o
     simp[Function.comp]
    have HT2:Hid ((t.extract n t.size).size=t.size - n):=by show _=_;rw[ByteArray.size_extract];omega
    clear hq1
    obtain ⟨ys,hO,hT⟩:=HW.out
    have hnb:Below w1.heap.size w1 (w1.alloc (.cells #[.int .u8 c] 5)):=(Below.refl _ _).alloc (Nat.le_refl _) _
    have HO2:Hid (Own w.heap.size (w1.alloc (.cells #[.int .u8 c] 5)) u4 out.length ys/\ys.take out.length=out):=⟨(hO.below H1.out).below hnb,hT⟩
    have HR2:Hid (Rd (w1.alloc (.cells #[.int .u8 c] 5)) (some ⟨w1.heap.size,0,none⟩) [c]):=new_rd w1 _ hbd
    have HNB:Hid (Below w1.heap.size w1 (w1.alloc (.cells #[.int .u8 c] 5))):=hnb
    clear hO hT hnb HW HB H1
    go_wp2_with (at_builtin;refine wpList_append_blk _ rfl _ _ rfl w.heap.size _ out.length ys rfl HO2.out.1 (some ⟨w1.heap.size,0,none⟩) 1 1 [c] rfl HR2.out rfl (by simp) (by omega) (Nat.le_trans HB1.out.size HNB.out.size) ?_;intro v' w' ys' hO' hT' hG')
    have hrow:=HO2.out.1.lt
    refine ⟨⟨t.extract n t.size,out++[c],rfl,?_,HS2,⟨ys',?_,?_⟩,?_⟩,?_⟩
    ·rw[HT2.out,List.length_append,List.length_singleton];omega
    ·rw[List.length_append];exact hO'.out
    ·rw[List.length_append];exact hT'.out.trans (by rw[HO2.out.2])
    ·exact (HB1.out.trans (HNB.out.mono HB1.out.size)).grown hG' (Nat.le_trans HB1.out.size HNB.out.size) hrow
    ·simp only[strSz];rw[HT2.out];omega
  ·have h0':¬ (0:Int)<(t.size:Int):=by omega
   have HQ:Hid (xstrR (nums s)=(lb out,0)):=by
    refine xstrR_some ?_
    have h2:=HS.out
    unfold StB at h2
    have h3:nums t=[]:=List.length_eq_zero_iff.1 (by rw[nums_len];omega)
    rw[h2,h3]
    simp[xstr]
   obtain ⟨ys,hO,hT⟩:=HW.out
   obtain ⟨ao,rfl,hA⟩:=hO.addr
   have hcv:=conv_rd ao out.length ys.length out wr (by have:=hA.rdTake out.length;rw[hT] at this;exact this) rfl
   have HL:Hid (lb out=⟨(txt out).toArray⟩):=rfl
   clear hO hT HW hA
   generalize ys.length=yl at*
   go_wp2_with fail
   go_ret2
   exact ⟨by rw[HQ.out];rfl,HB.out⟩
end Go.Proofs.YtjkljpdolhglcaaGreatDoor
