/- Texts laid together, in parts: Zf Zg Zh Zi Zj Zk Zl Zm Zn Zo Ma Mb. -/
import Derived.Test.YtjkljpdolhglcaaGreatDoorWkg
import Derived.Deep.CutBlock
import Derived.WalkMore
set_option maxRecDepth 100000
set_option maxHeartbeats 8000000
set_option linter.unusedVariables false
set_option linter.unusedSimpArgs false
namespace Go.Proofs.YtjkljpdolhglcaaGreatDoor
open Go.ChangeShapes Go.WideShapes Go.ChangeAt Go.RowKit
def bI(c:UInt8):Int:=(c.toNat:Int)
theorem bI_eq(c k:UInt8):(bI c == bI k)=(c == k):=by
 unfold bI
 rw[Bool.eq_iff_iff];simp
 rw[<- UInt8.toNat_inj];omega
def isBz(z:Int):Bool:=z == 32 || z == 9 || z == 13
def endsz(z:Int):Bool:=isBz z || z == 10 || z == 59 || z == 40 || z == 41
theorem isBz_bI(c:UInt8):isBz (bI c)=isB c:=by
 unfold isBz isB
 rw[<- bI_eq c 32,<- bI_eq c 9,<- bI_eq c 13];rfl
theorem endsz_bI(c:UInt8):endsz (bI c)=endsW c:=by
 unfold endsz endsW
 rw[isBz_bI,<- bI_eq c 10,<- bI_eq c 59,<- bI_eq c 40,<- bI_eq c 41];rfl
theorem isb45(z:Int)(w:World):Calls Tryz.prog 53 #[.int .u8 z] w fun e w'=>e=.returned (.bool (isBz z))/\w'=w:=by
 go_enter Tryz.func53,Tryz.ntmps53
 go_wp2
 all_goals
  go_ret
  exact ⟨ret_bool (by simp_all [isBz]),rfl⟩
theorem ends50(z:Int)(w:World):Calls Tryz.prog 58 #[.int .u8 z] w fun e w'=>e=.returned (.bool (endsz z))/\w'=w:=by
 have K:=Lib.hid (fun w=>isb45 z w)
 go_enter Tryz.func58,Tryz.ntmps58
 go_wp2_with fail
 refine (K.out _).mono ?_
 rintro e w1 ⟨rfl,rfl⟩
 cases hb:isBz z with
 |true=>
  go_wp2
  all_goals
   go_ret
   exact ⟨ret_bool (by simp_all [endsz]),rfl⟩
 |false=>
  go_wp2
  all_goals
   go_ret
   exact ⟨ret_bool (by simp_all [endsz]),rfl⟩
theorem esc46(k:Nat)(w:World):Calls Tryz.prog 54 #[.int .u8 k] w fun e w'=>e=.returned (.bool (decide (k=2∨k=4)))/\w'=w:=by
 go_enter Tryz.func54,Tryz.ntmps54
 go_wp2
 all_goals
  go_ret
  exact ⟨ret_bool (by rw[Bool.eq_iff_iff];simp;try omega),rfl⟩
theorem clone73(s:ByteArray)(w:World)(h:s.size<=281474976710656):Calls Tryz.prog 104 #[.string s] w fun e w'=>e=.returned (.string s)/\Hid (Below w.heap.size w w'):=by
 have K:=Lib.hid (fun w=>Tryz.stringslite_Clone s w h)
 go_enter Tryz.func104,Tryz.ntmps104
 go_wp2_with fail
 refine (K.out _).mono ?_
 rintro e w1 ⟨rfl,HB⟩
 have HB1:=Lib.hid HB
 clear HB
 go_wp2_with fail
 go_ret
 exact ⟨rfl,HB1⟩
theorem cnt10_lib(l:List UInt8):Lib.countByte l 10=cnt10 l:=by
 unfold Lib.countByte
 induction l with
 |nil=>rfl
 |cons c l ih=>
  rw[List.count_cons,ih,cnt10]
  by_cases h:c=10
  ·simp[h];omega
  ·simp[h]
theorem suffix10(l:List UInt8):Lib.hasSuffix l [10]=decide (l.getLast?=some 10):=by
 unfold Lib.hasSuffix
 rw[Bool.eq_iff_iff]
 simp only[List.isSuffixOf_iff_suffix,decide_eq_true_eq]
 constructor
 ·rintro ⟨t,rfl⟩;simp
 ·intro h
  obtain ⟨t,ht⟩:=List.getLast?_eq_some_iff.1 h
  exact ⟨t,ht.symm⟩
theorem cnt10_le(l:List UInt8):cnt10 l<=l.length:=by
 induction l with
 |nil=>simp[cnt10]
 |cons c l ih=>simp[cnt10];split <;> omega
theorem lines13(s:ByteArray)(w:World)(h:s.size<=4611686018427387904):Calls Tryz.prog 84 #[.string s] w fun e w'=>e=.returned (.int .i64 (linesF s.data.toList))/\w'=w:=by
 have K30:Hid (∀w,Calls Tryz.prog 105 #[.string s,.string ⟨#[10]⟩] w fun e w'=>e=.returned (.int .i64 (cnt10 s.data.toList))/\w'=w):=fun w=>by
  have:=Tryz.strings_Count_one s 10 w
  rw[cnt10_lib] at this;exact this
 have K31:Hid (∀w,Calls Tryz.prog 106 #[.string s,.string ⟨#[10]⟩] w fun e w'=>e=.returned (.bool (decide (s.data.toList.getLast?=some 10)))/\w'=w):=fun w=>by
  have:=Tryz.strings_HasSuffix s ⟨#[10]⟩ w (by omega)
  rw[show (⟨#[10]⟩:ByteArray).data.toList=[10] from rfl,suffix10] at this;exact this
 have hc:=cnt10_le s.data.toList
 have hl:s.data.toList.length=s.size:=by simp
 rw[hl] at hc
 have HL:Hid (linesF s.data.toList=cnt10 s.data.toList+(if s.data.toList.getLast?=none∨s.data.toList.getLast?=some 10 then 0 else 1)):=rfl
 generalize cnt10 s.data.toList=C at*
 generalize linesF s.data.toList=N at*
 have HN:Hid (s.data.toList.getLast?=none↔s.size=0):=(show _↔_ from List.getLast?_eq_none_iff.trans ⟨fun e=>by rw[<- hl,e];rfl,fun e=>List.length_eq_zero_iff.1 (by rw[hl];exact e)⟩)
 by_cases h0:s.size=0
 ·have hs:s=⟨#[]⟩:=by apply ByteArray.ext;exact Array.eq_empty_of_size_eq_zero h0
  have e:=HL.out
  rw[if_pos (.inl (HN.out.2 h0))] at e
  have HE:Hid (N=C):=(by show N=C;omega)
  subst hs
  clear HL HN e
  go_enter Tryz.func84,Tryz.ntmps84
  go_wp2_with fail
  refine (K30.out _).mono ?_
  rintro e w1 ⟨rfl,rfl⟩
  go_wp2_with fail
  go_ret
  exact ⟨by rw[HE.out];rfl,rfl⟩
 ·have hne:(s.data.toList == ([]:List UInt8))=false:=by simp;intro e;apply h0;rw[<- hl,e];rfl
  have hne2:(s.toList == ([]:List UInt8))=false:=by rw[ba_toList];exact hne
  have hne3:¬ s=⟨#[]⟩:=by intro e;apply h0;rw[e];rfl
  by_cases hk:s.data.toList.getLast?=some 10
  ·have e:=HL.out
   rw[if_pos (.inr hk)] at e
   have HE:Hid (N=C):=(by show N=C;omega)
   simp only[hk,decide_true] at K31
   clear HL HN e hk
   go_enter Tryz.func84,Tryz.ntmps84
   go_wp2_with fail
   refine (K30.out _).mono ?_
   rintro e w1 ⟨rfl,rfl⟩
   go_wp2_with fail
   refine (K31.out _).mono ?_
   rintro e w1 ⟨rfl,rfl⟩
   go_wp2_with fail
   go_ret
   exact ⟨by rw[HE.out];rfl,rfl⟩
  ·have e:=HL.out
   rw[if_neg (by simp only[not_or];exact ⟨fun x=>h0 (HN.out.1 x),hk⟩)] at e
   have HE:Hid (N=C+1):=e
   simp only[hk,decide_false] at K31
   clear HL HN e hk
   go_enter Tryz.func84,Tryz.ntmps84
   go_wp2_with fail
   refine (K30.out _).mono ?_
   rintro e w1 ⟨rfl,rfl⟩
   go_wp2_with fail
   refine (K31.out _).mono ?_
   rintro e w1 ⟨rfl,rfl⟩
   go_wp2_with fail
   go_ret
   exact ⟨by rw[HE.out];go_num,rfl⟩
def Bx(w:World)(R:Nat)(s:ByteArray)(ln op st:Nat)(el:Int)(bl:Bool)(wv ev:Value):Prop:=
 w.heap[R]?=some (.cells #[.string s,.int .i64 ln,.int .i64 op,.int .i64 st,.int .i64 el,.bool bl,wv,ev] 87 (0,0))
variable {w:World} {R:Nat} {s:ByteArray} {ln op st:Nat} {el:Int} {bl:Bool} {wv ev:Value}
theorem Bx.lt(h:Bx w R s ln op st el bl wv ev):R<w.heap.size:=(Array.getElem?_eq_some_iff.1 h).1
theorem Bx.c0(h:Bx w R s ln op st el bl wv ev):w.cell? ⟨R,0,none⟩=some (.string s):=by unfold Bx at h;simp[World.cell?,h]
theorem Bx.c1(h:Bx w R s ln op st el bl wv ev):w.cell? ⟨R,1,none⟩=some (.int .i64 ln):=by unfold Bx at h;simp[World.cell?,h]
theorem Bx.c2(h:Bx w R s ln op st el bl wv ev):w.cell? ⟨R,2,none⟩=some (.int .i64 op):=by unfold Bx at h;simp[World.cell?,h]
theorem Bx.c3(h:Bx w R s ln op st el bl wv ev):w.cell? ⟨R,3,none⟩=some (.int .i64 st):=by unfold Bx at h;simp[World.cell?,h]
theorem Bx.c4(h:Bx w R s ln op st el bl wv ev):w.cell? ⟨R,4,none⟩=some (.int .i64 el):=by unfold Bx at h;simp[World.cell?,h]
theorem Bx.c5(h:Bx w R s ln op st el bl wv ev):w.cell? ⟨R,5,none⟩=some (.bool bl):=by unfold Bx at h;simp[World.cell?,h]
theorem Bx.c6(h:Bx w R s ln op st el bl wv ev):w.cell? ⟨R,6,none⟩=some wv:=by unfold Bx at h;simp[World.cell?,h]
theorem Bx.c7(h:Bx w R s ln op st el bl wv ev):w.cell? ⟨R,7,none⟩=some ev:=by unfold Bx at h;simp[World.cell?,h]
theorem Bx.fz(h:Bx w R s ln op st el bl wv ev)(i:Nat):w.frozen? ⟨R,i,none⟩=false:=by unfold Bx at h;simp[World.frozen?,h]
theorem Bx.same{w':World}(h:Bx w R s ln op st el bl wv ev)(hb:w'.heap[R]?=w.heap[R]?):Bx w' R s ln op st el bl wv ev:=hb.trans h
theorem Bx.not_lst(h:Bx w R s ln op st el bl wv ev):¬ lst w R:=by
 rintro ⟨cur,t,h1,h2⟩
 unfold Bx at h
 rw[h] at h1
 cases h1
 simp at h2
theorem Bx.p1(h:Bx w R s ln op st el bl wv ev)(n:Nat):Bx (w.setCell ⟨R,1,none⟩ (.int .i64 n)) R s n op st el bl wv ev:=by
 have:=heap_set h 1 (.int .i64 n);simpa [Bx] using this
theorem Bx.p2(h:Bx w R s ln op st el bl wv ev)(n:Nat):Bx (w.setCell ⟨R,2,none⟩ (.int .i64 n)) R s ln n st el bl wv ev:=by
 have:=heap_set h 2 (.int .i64 n);simpa [Bx] using this
theorem Bx.p3(h:Bx w R s ln op st el bl wv ev)(n:Nat):Bx (w.setCell ⟨R,3,none⟩ (.int .i64 n)) R s ln op n el bl wv ev:=by
 have:=heap_set h 3 (.int .i64 n);simpa [Bx] using this
theorem Bx.p4(h:Bx w R s ln op st el bl wv ev)(n:Int):Bx (w.setCell ⟨R,4,none⟩ (.int .i64 n)) R s ln op st n bl wv ev:=by
 have:=heap_set h 4 (.int .i64 n);simpa [Bx] using this
theorem Bx.p5(h:Bx w R s ln op st el bl wv ev)(b:Bool):Bx (w.setCell ⟨R,5,none⟩ (.bool b)) R s ln op st el b wv ev:=by
 have:=heap_set h 5 (.bool b);simpa [Bx] using this
theorem Bx.p6(h:Bx w R s ln op st el bl wv ev)(v:Value):Bx (w.setCell ⟨R,6,none⟩ v) R s ln op st el bl v ev:=by
 have:=heap_set h 6 v;simpa [Bx] using this
theorem Bx.p7(h:Bx w R s ln op st el bl wv ev)(v:Value):Bx (w.setCell ⟨R,7,none⟩ v) R s ln op st el bl wv v:=by
 have:=heap_set h 7 v;simpa [Bx] using this
theorem set_size(w:World)(a:Addr)(v:Value):(w.setCell a v).heap.size=w.heap.size:=by simp
def Since(B:Nat)(wS w:World):Prop:=B<=wS.heap.size/\wS.heap.size<=w.heap.size/\∀j,B<=j->lst wS j->w.heap[j]?=wS.heap[j]?
theorem Since.refl{B:Nat}{w:World}(h:B<=w.heap.size):Since B w w:=⟨h,Nat.le_refl _,fun _ _ _=>rfl⟩
theorem Since.set{B:Nat}{wS w:World}(h:Since B wS w){R:Nat}(hR:¬ lst w R)(i:Nat)(u:Value):Since B wS (w.setCell ⟨R,i,none⟩ u):=by
 refine ⟨h.1,by rw[set_size];exact h.2.1,fun j h1 h2=>?_⟩
 have e:=h.2.2 j h1 h2
 rw[Below.heap_setCell _ _ _ _ (fun x=>?_),e]
 simp only at x;subst x
 obtain ⟨cur,t,a,b⟩:=h2
 exact hR ⟨cur,t,e.trans a,b⟩
theorem Since.below{B:Nat}{wS w w':World}(h:Since B wS w)(hb:Below w.heap.size w w'):Since B wS w':=
 ⟨h.1,Nat.le_trans h.2.1 hb.size,fun j h1 h2=>by
  rw[hb.block j (Nat.lt_of_lt_of_le h2.lt h.2.1)];exact h.2.2 j h1 h2⟩
theorem Since.grown{B:Nat}{wS w w':World}{g:Option Nat}(h:Since B wS w)(hb:w.grownBy w' g)(hg:∀k,g=some k->wS.heap.size<=k):Since B wS w':=
 ⟨h.1,Nat.le_trans h.2.1 hb.size,fun j h1 h2=>by
  rw[hb.block j (Nat.lt_of_lt_of_le h2.lt h.2.1) (fun e=>by have:=hg j e.symm;have:=h2.lt;omega)];exact h.2.2 j h1 h2⟩
theorem Since.own{B:Nat}{wS w:World}(h:Since B wS w){v:Value}{es:List En}(ho:OwE B wS v es):OwE B w v es:=ho.go h.2.1 h.2.2
theorem row_set57{B e k n R:Nat}{v:Value}{xs:List Value}{w:World}(h:w.ownsRow B e k v n xs)(he:e=75∨e=77)(hR:¬ lst w R)(i:Nat)(u:Value):(w.setCell ⟨R,i,none⟩ u).ownsRow B e k v n xs:=
 row_stays h (fun g hg=>Below.heap_setCell _ _ _ _ (fun x=>by
  simp only at x;subst x
  obtain ⟨cur,hc⟩:=row_type h g hg
  exact hR ⟨cur,e,hc,he⟩))
structure Fx where
 w:World
 P:List (Nat × Int × Int)
def Fr(B:Nat)(x:Fx)(w:World):Prop:=Below B x.w w/\∀j∈x.P,w.heap[j.1]?=some (.cells #[.int .i64 j.2.1,.int .i64 j.2.2] 28 (0,0))
theorem Fr.set{B R:Nat}{x:Fx}{w:World}(h:Fr B x w)(hR:B<=R){cs:Array Value}(hb:w.heap[R]?=some (.cells cs 87 (0,0)))(i:Nat)(u:Value):Fr B x (w.setCell ⟨R,i,none⟩ u):=by
 refine ⟨h.1.setCell (p:=⟨R,i,none⟩) hR _,fun j hj=>?_⟩
 have e:=h.2 j hj
 rw[Below.heap_setCell _ _ _ _ (fun y=>?_),e]
 simp only at y;rw[y,hb] at e;cases e
theorem Fr.go{B:Nat}{x:Fx}{w w':World}(h:Fr B x w)(hb:Below w.heap.size w w')(hB:B<=w.heap.size):Fr B x w':=
 ⟨h.1.trans (hb.mono hB),fun j hj=>by
  have e:=h.2 j hj
  rw[hb.block j.1 (Array.getElem?_eq_some_iff.1 e).1];exact e⟩
theorem Fr.grown{B:Nat}{x:Fx}{w w':World}{g:Option Nat}(h:Fr B x w)(hg:w.grownBy w' g)(hB:B<=w.heap.size)(hk:∀k,g=some k->B<=k/\lst w k):Fr B x w':=
 ⟨h.1.grown hg hB (fun k e=>(hk k e).1),fun j hj=>by
  have e:=h.2 j hj
  rw[hg.block j.1 (Array.getElem?_eq_some_iff.1 e).1 (fun y=>?_)]
  ·exact e
  ·obtain ⟨cur,t,h1,h2⟩:=(hk j.1 y.symm).2
   rw[e] at h1;cases h1;simp at h2⟩
structure RSZ(B R:Nat)(w0:Fx)(w:World)(s:ByteArray)(q:Cf)(start:Nat)(wv ev:Value)(wS:World):Prop where
 bx:Bx w R s q.line q.op start q.el q.bl wv ev
 ow:OwE B wS ev q.es
 si:Since B wS w
 wo:w.ownsRow wS.heap.size 77 2 wv q.ws.length (cellsWZ q.ws)
 br:B<=R
 bl:Fr B w0 w
structure RC(B R:Nat)(w0:Fx)(w:World)(s:ByteArray)(q:Cf)(start:Nat)(wv ev:Value):Prop where
 bx:Bx w R s q.line q.op start q.el q.bl wv ev
 ow:OwE B w ev q.es
 br:B<=R
 bl:Fr B w0 w
theorem RSZ.rc{B R:Nat}{w0:Fx}{w:World}{s:ByteArray}{q:Cf}{start:Nat}{wv ev:Value}{wS:World}(h:RSZ B R w0 w s q start wv ev wS):RC B R w0 w s q start wv ev:=⟨h.bx,h.si.own h.ow,h.br,h.bl⟩
theorem headB_drop(s:ByteArray)(p:Nat)(h:p<s.size):headB (s.data.toList.drop p)=isB s[p]:=by
 rw[List.drop_eq_getElem_cons (by simpa using h)]
 rfl
theorem headB_none(s:ByteArray)(p:Nat)(h:¬ p<s.size):headB (s.data.toList.drop p)=false:=by
 rw[List.drop_of_length_le (by simp;omega)];rfl
theorem RC.begun{B R:Nat}{w0:Fx}{w:World}{s:ByteArray}{q:Cf}{start:Nat}{wv ev:Value}(h:RC B R w0 w s q start wv ev)(r:List UInt8)(b:Bool)(hb:headB r=b) :
  RSZ B R w0 (((w.setCell ⟨R,4,none⟩ (.int .i64 0)).setCell ⟨R,5,none⟩ (.bool b)).setCell ⟨R,6,none⟩ (.slice none 0 0)) s (beginF q r) start (.slice none 0 0) ev (((w.setCell ⟨R,4,none⟩ (.int .i64 0)).setCell ⟨R,5,none⟩ (.bool b)).setCell ⟨R,6,none⟩ (.slice none 0 0)):=by
 have b1:=h.bx.p4 0
 have b2:=b1.p5 b
 have b3:=b2.p6 (.slice none 0 0)
 have hB:B<=w.heap.size:=Nat.le_of_lt (Nat.lt_of_le_of_lt h.br h.bx.lt)
 have s0:Since B w w:=Since.refl hB
 have s3:=((s0.set h.bx.not_lst 4 (.int .i64 0)).set b1.not_lst 5 (.bool b)).set b2.not_lst 6 (.slice none 0 0)
 refine ⟨?_,s3.own h.ow,Since.refl (by simp only[set_size];exact hB),World.ownsRow_nil _ _ _ _,h.br,?_⟩
 ·simp only[beginF,hb];exact b3
 ·exact ((h.bl.set h.br h.bx 4 _).set h.br b1 5 _).set h.br b2 6 _
theorem begin28(B R:Nat)(w0:Fx)(w:World)(s:ByteArray)(q:Cf)(start:Nat)(wv ev:Value)(p:Nat)(h:RC B R w0 w s q start wv ev)(hs:s.size<=9223372036854775807) :
  Calls Tryz.prog 33 #[.pointer (some ⟨R,0,none⟩),.int .i64 p] w fun e w'=>e=.returned (.tuple #[])/\Hid (∃wS,RSZ B R w0 w' s (beginF q (s.data.toList.drop p)) start (.slice none 0 0) ev wS):=by
 have c0:=h.bx.c0
 have f4:=h.bx.fz 4
 have f5:=h.bx.fz 5
 have f6:=h.bx.fz 6
 have c4:=h.bx.c4
 have c5:=h.bx.c5
 have c6:=h.bx.c6
 have hlt:=h.bx.lt
 by_cases hp:p<s.size
 ·have hp':(p:Int)<(s.size:Int):=by omega
  have K:=Lib.hid (fun w=>isb45 ((s[p].toNat:Nat):Int) w)
  have HF:=Lib.hid (h.begun (s.data.toList.drop p) (isBz ((s[p].toNat:Nat):Int)) (by rw[headB_drop s p hp];exact (isBz_bI _).symm))
  clear h
  go_enter Tryz.func33,Tryz.ntmps33
  go_wp2_with fail
  refine (K.out _).mono ?_
  rintro e w1 ⟨rfl,rfl⟩
  generalize isBz ((s[p].toNat:Nat):Int)=b at*
  go_wp2_with fail
  go_end0
  exact ⟨rfl,_,HF.out⟩
 ·have hp':¬ (p:Int)<(s.size:Int):=by omega
  have HF:=Lib.hid (h.begun (s.data.toList.drop p) false (headB_none s p hp))
  clear h
  go_enter Tryz.func33,Tryz.ntmps33
  go_wp2_with fail
  go_end0
  exact ⟨rfl,_,HF.out⟩
theorem al_below(w:World)(o:Obj):Below w.heap.size w (w.alloc o):=(Below.refl _ _).alloc (Nat.le_refl _) _
theorem close65(B R:Nat)(w0:Fx)(w:World)(s:ByteArray)(q:Cf)(start:Nat)(wv ev:Value)(wS:World)(h:RSZ B R w0 w s q start wv ev wS)(he:q.es.length<=1000000) :
  Calls Tryz.prog 83 #[.pointer (some ⟨R,0,none⟩)] w fun e w'=>e=.returned (.tuple #[])/\Hid (∃wv' ev',RC B R w0 w' s (closeF q) start wv' ev'):=by
 obtain ⟨x,rfl,hx⟩:=RfE.of h.wo
 obtain ⟨y,hy,hW⟩:=row_wrd h.wo
 have hxy:x=y:=by cases x;cases y;simp only[Value.slice.injEq] at hy;obtain ⟨rfl,rfl,rfl⟩:=hy;rfl
 subst hxy
 have hn:=hW.1
 have c6:=h.bx.c6
 by_cases h0:q.ws.length=0
 ·have HR:Hid (∃wv' ev',RC B R w0 w s (closeF q) start wv' ev'):=by
   have hr:=h.rc
   have e:closeF q=q:=by
    have:q.ws=[]:=List.length_eq_zero_iff.1 h0
    cases q;simp_all [closeF]
   rw[e];exact ⟨_,_,hr⟩
  have hn0:x.n=0:=by omega
  rw[hn0] at c6
  clear h hx hW hy hn hn0
  go_enter Tryz.func83,Tryz.ntmps83
  go_wp2_with fail
  go_end0
  exact ⟨rfl,HR⟩
 ·have hpos:(0:Int)<(x.n:Int):=by omega
  have hne:q.ws.isEmpty=false:=by cases hq:q.ws with|nil=>simp[hq] at h0|cons=>rfl
  have HO:Hid (OwE B w ev q.es):=h.si.own h.ow
  obtain ⟨ps,hp1,hp2,hp3⟩:=HO.out
  have hpl:ps.length<=1000000:=by have:=congrArg List.length hp1;simp at this;omega
  have hX:RfE B w x q.ws:=fun w' hs hb=>hx w' hs (fun j hj=>hb j (by have:=h.si.1;omega))
  obtain ⟨i25,hi,hz0,hz1,hz2⟩:=inf25
  have HI:Hid (Tryz.prog.info? 75=some i25/\i25.zero=some (.agg #[.int .i64 0,.bool false,.slice none 0 0])/\i25.size=3/\i25.bytes=40):=⟨hi,hz0,hz1,hz2⟩
  have HP:Hid (w.ownsRow B 75 3 ev ps.length (cellsE ps)/\∀p∈ps,RfE B w p.1 p.2.ws):=⟨hp2,hp3⟩
  have HX:=Lib.hid hX
  have HE:=Lib.hid hp1
  have c4:=h.bx.c4
  have c5:=h.bx.c5
  have c7:=h.bx.c7
  have f7:=h.bx.fz 7
  have hlt:=h.bx.lt
  have HBX:=Lib.hid h.bx
  have hBs:B<=w.heap.size:=by have:=h.br;omega
  have HBR:=Lib.hid h.br
  have HBL:=Lib.hid h.bl
  have HFIN:Hid (∀(w4:World) (g cap:Nat),w4.ownsRow B 75 3 (.slice (some ⟨g,0,none⟩) (ps.length+1) cap) (ps.length+1) (cellsE ps++cellsE [(x,⟨q.el,q.bl,q.ws⟩)])->(w.drew.alloc (.cells #[.int .i64 q.el,.bool q.bl,.slice x.a x.n x.c] 75)).grownBy w4 ev.ownBlock->Bx w4 R s q.line q.op start q.el q.bl (.slice x.a x.n x.c) ev/\RC B R w0 (w4.setCell ⟨R,7,none⟩ (.slice (some ⟨g,0,none⟩) (ps.length+1) cap)) s (closeF q) start (.slice x.a x.n x.c) (.slice (some ⟨g,0,none⟩) (ps.length+1) cap)):=by
   intro w4 g cap h5 h6
   have hb0:Below w.heap.size w (w.drew.alloc (.cells #[.int .i64 q.el,.bool q.bl,.slice x.a x.n x.c] 75)):=((Below.refl _ _).drew).alloc (Nat.le_refl _) _
   have hpu:=OwE.push (e:=⟨q.el,q.bl,q.ws⟩) HP.out.2 HX.out HP.out.1 hb0 h5 h6
   have hne2:some R≠ev.ownBlock:=fun e=>by
    obtain ⟨cur,hc⟩:=row_type HP.out.1 R e.symm
    exact HBX.out.not_lst ⟨cur,75,hc,.inl rfl⟩
   have hbx4:Bx w4 R s q.line q.op start q.el q.bl (.slice x.a x.n x.c) ev:=HBX.out.same (by rw[h6.block R (Nat.lt_of_lt_of_le hlt hb0.size) hne2,hb0.block R hlt])
   refine ⟨hbx4,?_,?_,HBR.out,?_⟩
   ·have:=hbx4.p7 (.slice (some ⟨g,0,none⟩) (ps.length+1) cap)
    simpa [closeF] using this
   ·have e:(closeF q).es=ps.map (·.2)++[⟨q.el,q.bl,q.ws⟩]:=by simp[closeF,hne,HE.out]
    rw[e]
    refine hpu.go (by rw[set_size];exact Nat.le_refl _) (fun j hj hl=>Below.heap_setCell _ _ _ _ (fun e=>?_))
    simp only at e;subst e
    exact hbx4.not_lst hl
   ·refine Fr.set ?_ HBR.out hbx4 7 _
    exact (HBL.out.go hb0 hBs).grown h6 (Nat.le_trans hBs hb0.size) (fun k e=>⟨(HP.out.1.lt k e).1,by
     obtain ⟨cur,hc⟩:=row_type HP.out.1 k e
     exact ⟨cur,75,(hb0.block k (HP.out.1.lt k e).2).trans hc,.inl rfl⟩⟩)
  have n4:(w.drew.alloc (.cells #[.int .i64 q.el,.bool q.bl,.slice x.a x.n x.c] 75)).cell? ⟨R,7,none⟩=some ev:=((al_below w.drew _).cell (p:=⟨R,7,none⟩) hlt).trans c7
  clear h hx hW hp1 hp2 hp3 hX hi hz0 hz1 hz2 hy h0 hn
  go_enter Tryz.func83,Tryz.ntmps83
  go_wp2_with fail
  go_region_law (first
   |(refine step_append_lies _ (by rfl) _ _ 58 (by rfl) B 75 i25 _ 3 40 Tryz.underlying58 HI.out.1 HI.out.2.1 HI.out.2.2.1 HI.out.2.2.2 rfl (by omega) ev ps.length (cellsE ps) (by rfl) ((row_stays HP.out.1 (fun g hg=>rfl):w.drew.ownsRow B 75 3 ev ps.length (cellsE ps)).alloc _) ⟨w.heap.size,0,none⟩ 1 1 (cellsE [(x,⟨q.el,q.bl,q.ws⟩)]) (by rfl) (by rfl) (one_en w.drew x ⟨q.el,q.bl,q.ws⟩) (cellsE_one _) (by omega) (by simp only[maxLen];omega) (by omega) (by simp;omega) (w.heap.size+1) (by simp) ?_;intro g cap w7 h5 h6 hat hlt7;have HF:=Lib.hid (HFIN.out w7 g cap h5 h6);have u7:w7.cell? ⟨R,7,none⟩=some ev:=HF.out.1.c7;have uz:w7.frozen? ⟨R,7,none⟩=false:=HF.out.1.fz 7;have ul:R<w7.heap.size:=HF.out.1.lt;clear h5 h6 hat)
   |fail)
  all_goals
   go_wp2_with fail
   go_end0
   exact ⟨rfl,_,_,HF.out.2⟩
def CurS(s:ByteArray)(q:Cf)(start p:Nat):Prop:=start<=p/\p<=s.size/\q.cur=(s.data.toList.take p).drop start
theorem cur_text{s:ByteArray}{q:Cf}{start p:Nat}(h:CurS s q start p):(⟨q.cur.toArray⟩:ByteArray)=s.extract start p:=by
 obtain ⟨h1,h2,h3⟩:=h
 apply ByteArray.ext
 rw[h3]
 have e:(s.extract start p).data=s.data.extract start p:=by simp[ByteArray.data_extract]
 rw[e]
 apply Array.ext'
 rw[Array.toList_extract]
 simp[List.extract,List.drop_take]
theorem RSZ.wordSet{B R:Nat}{w0:Fx}{w:World}{s:ByteArray}{q:Cf}{start:Nat}{wv ev:Value}{wS:World}(h:RSZ B R w0 w s q start wv ev wS)(z:Int):RSZ B R w0 (w.setCell ⟨R,4,none⟩ (.int .i64 z)) s { q with el:=z } start wv ev wS:=
 ⟨h.bx.p4 z,h.ow,h.si.set h.bx.not_lst 4 _,row_set57 h.wo (.inr rfl) h.bx.not_lst 4 _,h.br,h.bl.set h.br h.bx 4 _⟩
theorem RSZ.go{B R:Nat}{w0:Fx}{w w':World}{s:ByteArray}{q:Cf}{start:Nat}{wv ev:Value}{wS:World}(h:RSZ B R w0 w s q start wv ev wS)(hb:Below w.heap.size w w'):RSZ B R w0 w' s q start wv ev wS:=
 ⟨h.bx.same (hb.block R h.bx.lt),h.ow,h.si.below hb,row_stays h.wo (fun g hg=>hb.block g (h.wo.lt g hg).2),h.br,h.bl.go hb (by have:=h.br;have:=h.bx.lt;omega)⟩
theorem RSZ.pushW{B R:Nat}{w0:Fx}{w w4:World}{s:ByteArray}{q:Cf}{start:Nat}{wv ev v':Value}{wS:World}(h:RSZ B R w0 w s q start wv ev wS)(t:ByteArray)(k:Bool)(h5:w4.ownsRow wS.heap.size 77 2 v' (q.ws.length+1) (cellsWZ q.ws++cellsWZ [(t,k)]))(h6:(w.alloc (.cells #[.string t,.bool k] 77)).grownBy w4 wv.ownBlock) :
  Bx w4 R s q.line q.op start q.el q.bl wv ev/\RSZ B R w0 (w4.setCell ⟨R,6,none⟩ v') s { q with ws:=q.ws++[(t,k)] } start v' ev wS:=by
 have ha:=h.go (al_below w (.cells #[.string t,.bool k] 77))
 have hne:some R≠wv.ownBlock:=fun e=>by
  obtain ⟨cur,hc⟩:=row_type ha.wo R e.symm
  exact ha.bx.not_lst ⟨cur,77,hc,.inr rfl⟩
 have b4:Bx w4 R s q.line q.op start q.el q.bl wv ev:=ha.bx.same (h6.block R ha.bx.lt hne)
 refine ⟨b4,b4.p6 v',h.ow,(ha.si.grown h6 (fun k e=>(ha.wo.lt k e).1)).set b4.not_lst 6 _,?_,h.br,?_⟩
 ·have:w4.ownsRow wS.heap.size 77 2 v' (q.ws++[(t,k)]).length (cellsWZ (q.ws++[(t,k)])):=by
   rw[cellsW_app,List.length_append];exact h5
  exact row_set57 this (.inr rfl) b4.not_lst 6 _
 ·have hB:B<=wS.heap.size:=h.si.1
  exact (ha.bl.grown h6 (Nat.le_trans hB (ha.si.2.1)) (fun k e=>⟨Nat.le_trans hB (ha.wo.lt k e).1,by
   obtain ⟨cur,hc⟩:=row_type ha.wo k e
   exact ⟨cur,77,hc,.inr rfl⟩⟩)).set h.br b4 6 _
def KpP(B R:Nat)(w0:Fx)(s:ByteArray)(q:Cf)(start:Nat)(k:Bool)(e:Ending)(w':World):Prop:=
 ∃er:Nat,e=.returned (.int .i64 er)/\Hid ((keepF q k=none/\er=3/\∃wv ev wS,RSZ B R w0 w' s q start wv ev wS)∨(er=0/\∃q',keepF q k=some q'/\∃wv ev wS,RSZ B R w0 w' s q' start wv ev wS))
theorem keep64(B R:Nat)(w0:Fx)(w:World)(s:ByteArray)(q:Cf)(start:Nat)(wv ev:Value)(wS:World)(p:Nat)(k:Bool)(h:RSZ B R w0 w s q start wv ev wS)(hw:q.ws.length<=64)(hc:CurS s q start p)(hs:s.size<=1000000) :
  Calls Tryz.prog 82 #[.pointer (some ⟨R,0,none⟩),.int .i64 p,.bool k] w (KpP B R w0 s q start k):=by
 obtain ⟨⟨xa,xn,xc⟩,rfl,hW⟩:=row_wrd h.wo
 have hn:=hW.1
 simp only at hn h
 subst hn
 have c6:=h.bx.c6
 by_cases h64:q.ws.length=64
 ·have HR:=Lib.hid h
  have HK:Hid (keepF q k=none):=(by show keepF q k=none;simp[keepF,h64])
  rw[h64] at c6
  clear h hW hc
  go_enter Tryz.func82,Tryz.ntmps82
  go_wp2_with fail
  go_ret
  exact ⟨3,rfl,.inl ⟨HK.out,rfl,_,_,_,HR.out⟩⟩
 ·have HK:Hid (keepF q k=some { q with el:=if q.ws.isEmpty then q.line else q.el,ws:=q.ws++[(s.extract start p,k)] }):=(by
   show keepF q k=_
   simp only[keepF,if_neg h64,addW,cur_text hc])
  have hst:start<=p:=hc.1
  have hps:p<=s.size:=hc.2.1
  have hst':(start:Int)<=(p:Int):=by omega
  have hps':(p:Int)<=(s.size:Int):=by omega
  have K73:Hid (∀w,Calls Tryz.prog 104 #[.string (s.extract start p)] w fun e w'=>e=.returned (.string (s.extract start p))/\Hid (Below w.heap.size w w')):=fun w=>clone73 _ w (by simp;omega)
  obtain ⟨i27,hi,hz0,hz1,hz2⟩:=inf27
  have HI:Hid (Tryz.prog.info? 77=some i27/\i27.zero=some (.agg #[.string ⟨#[]⟩,.bool false])/\i27.size=2/\i27.bytes=24):=⟨hi,hz0,hz1,hz2⟩
  have hn64:¬ (q.ws.length:Int)=64:=by omega
  have hn64b:((q.ws.length:Int) == 64)=false:=by simpa using hn64
  have hx64:q.ws.length<64:=by omega
  clear hi hz0 hz1 hz2 hW hc h64 hw
  -- what stands behind the first two lines
  have REST:∀(W:World) (q1:Cf),q1.ws=q.ws->RSZ B R w0 W s q1 start (.slice xa q.ws.length xc) ev wS->∀(W2:World),Below W.heap.size W W2->∀(w4:World) (v':Value),w4.ownsRow wS.heap.size 77 2 v' (q.ws.length+1) (cellsWZ q.ws++cellsWZ [(s.extract start p,k)])->(W2.alloc (.cells #[.string (s.extract start p),.bool k] 77)).grownBy w4 (Value.slice xa q.ws.length xc).ownBlock->Bx w4 R s q1.line q1.op start q1.el q1.bl (.slice xa q.ws.length xc) ev/\RSZ B R w0 (w4.setCell ⟨R,6,none⟩ v') s { q1 with ws:=q.ws++[(s.extract start p,k)] } start v' ev wS:=by
   intro W q1 e1 hW W2 hb w4 v' h5 h6
   have:=(hW.go hb).pushW (s.extract start p) k (w4:=w4) (v':=v') (by rw[e1];exact h5) h6
   rw[e1] at this
   exact this
  have HREST:=Lib.hid REST
  clear REST
  have hB:wS.heap.size<=w.heap.size:=h.si.2.1
  by_cases h0:q.ws=[]
  ·have hx0:q.ws.length=0:=by rw[h0];rfl
   have HZ:=Lib.hid h0
   have HZL:=Lib.hid hx0
   rw[hx0] at h c6 HREST
   have HW:=Lib.hid (h.wordSet (q.line:Int))
   have c1:=h.bx.c1
   have c4:=h.bx.c4
   have f4:=h.bx.fz 4
   have hlt:=h.bx.lt
   have d0:=HW.out.bx.c0
   have d3:=HW.out.bx.c3
   have hla:=HW.out.bx.lt
   have HE0:Hid (Below (w.setCell ⟨R,4,none⟩ (.int .i64 (q.line:Int))).heap.size (w.setCell ⟨R,4,none⟩ (.int .i64 (q.line:Int))) (w.setCell ⟨R,4,none⟩ (.int .i64 (q.line:Int))).drew):=((Below.refl _ _).drew)
   clear h h0
   clear hx0 hn64 hn64b hx64
   go_enter Tryz.func82,Tryz.ntmps82
   go_wp2_with fail
   generalize w.setCell ⟨R,4,none⟩ (.int .i64 (q.line:Int))=wa at*
   go_region_held3 (fun W=>W.cell? ⟨R,0,none⟩=some (.string s)/\W.cell? ⟨R,3,none⟩=some (.int .i64 start)) (first|exact ⟨d0,d3⟩|exact ⟨(HB1.out.cell (p:=⟨R,0,none⟩) hla).trans d0,(HB1.out.cell (p:=⟨R,3,none⟩) hla).trans d3⟩) (first
    |(go_simp;go_at_call 104;refine (K73.out _).mono ?_;rintro e w1 ⟨rfl,HB1⟩)
    |fail)
   all_goals
    have HB2:Hid (Below wa.heap.size wa w1):=HE0.out.trans HB1.out
    have HW1:=Lib.hid (HW.out.go HB2.out)
    have g6:=HW1.out.bx.c6
    have HO:=Lib.hid (HW1.out.wo.alloc (.cells #[.string (s.extract start p),.bool k] 77))
    have hB1:wS.heap.size<=w1.heap.size:=HW1.out.si.2.1
    have HN1:=Lib.hid (one_termw w1 (s.extract start p) k)
    clear HB1
    go_wp2_with (at_builtin;go_loud (refine wpList_append_own _ rfl _ _ 73 rfl wS.heap.size 77 i27 _ 2 24 Tryz.underlying73 HI.out.1 HI.out.2.1 HI.out.2.2.1 HI.out.2.2.2 rfl (by omega) _ 0 (cellsWZ q.ws) rfl (by have t:=HO.out;rw[show ({ q with el:=(q.line:Int) }:Cf).ws.length=0 from HZL.out] at t;exact t) ⟨w1.heap.size,0,none⟩ 1 1 (cellsWZ [(s.extract start p,k)]) rfl rfl HN1.out (cellsW_one _) (by simp only[maxLen];omega) (by omega) (by simp;omega) ?_);intro v' w4 h5 h6 h7;obtain ⟨g',cap',rfl,_,_⟩:=h5.form (by omega);have HF:=Lib.hid (HREST.out wa { q with el:=(q.line:Int) } rfl HW.out w1 HB2.out w4 _ h5 h6);have k6:=HF.out.1.c6;have kz:=HF.out.1.fz 6;have kl:=HF.out.1.lt;clear h5 h6 h7)
    go_ret
    have he:q.ws.isEmpty=true:=by rw[HZ.out];rfl
    simp only[he,if_true] at HK
    exact ⟨0,rfl,.inr ⟨rfl,_,HK.out,_,_,_,HF.out.2⟩⟩
  ·have HNE:=Lib.hid h0
   have hx0:¬ (q.ws.length:Int)=0:=by
    have:q.ws.length≠0:=fun e=>h0 (List.length_eq_zero_iff.1 e)
    omega
   have hx0b:((q.ws.length:Int) == 0)=false:=by simpa using hx0
   have HW:=Lib.hid h
   have d0:=h.bx.c0
   have d3:=h.bx.c3
   have hla:=h.bx.lt
   have HE0:Hid (Below w.heap.size w w.drew):=((Below.refl _ _).drew)
   clear h h0
   go_enter Tryz.func82,Tryz.ntmps82
   go_wp2_with fail
   go_region_held3 (fun W=>W.cell? ⟨R,0,none⟩=some (.string s)/\W.cell? ⟨R,3,none⟩=some (.int .i64 start)) (first|exact ⟨d0,d3⟩|exact ⟨(HB1.out.cell (p:=⟨R,0,none⟩) hla).trans d0,(HB1.out.cell (p:=⟨R,3,none⟩) hla).trans d3⟩) (first
    |(go_simp;go_at_call 104;refine (K73.out _).mono ?_;rintro e w1 ⟨rfl,HB1⟩)
    |fail)
   all_goals
    have HB2:Hid (Below w.heap.size w w1):=HE0.out.trans HB1.out
    have HW1:=Lib.hid (HW.out.go HB2.out)
    have g6:=HW1.out.bx.c6
    have HO:=Lib.hid (HW1.out.wo.alloc (.cells #[.string (s.extract start p),.bool k] 77))
    have hB1:wS.heap.size<=w1.heap.size:=HW1.out.si.2.1
    have HN1:=Lib.hid (one_termw w1 (s.extract start p) k)
    clear HB1
    go_wp2_with (at_builtin;go_loud (refine wpList_append_own _ rfl _ _ 73 rfl wS.heap.size 77 i27 _ 2 24 Tryz.underlying73 HI.out.1 HI.out.2.1 HI.out.2.2.1 HI.out.2.2.2 rfl (by omega) _ q.ws.length (cellsWZ q.ws) rfl HO.out ⟨w1.heap.size,0,none⟩ 1 1 (cellsWZ [(s.extract start p,k)]) rfl rfl HN1.out (cellsW_one _) (by simp only[maxLen];omega) (by omega) (by simp;omega) ?_);intro v' w4 h5 h6 h7;obtain ⟨g',cap',rfl,_,_⟩:=h5.form (by omega);have HF:=Lib.hid (HREST.out w q rfl HW.out w1 HB2.out w4 _ h5 h6);have k6:=HF.out.1.c6;have kz:=HF.out.1.fz 6;have kl:=HF.out.1.lt;clear h5 h6 h7)
    go_ret
    have he:q.ws.isEmpty=false:=by
     cases hq:q.ws with
     |nil=>exact absurd hq HNE.out
     |cons=>rfl
    simp only[he,Bool.false_eq_true,if_false] at HK
    exact ⟨0,rfl,.inr ⟨rfl,_,HK.out,_,_,_,HF.out.2⟩⟩
def StQ(B R:Nat)(w0:Fx)(s:ByteArray)(p:Nat)(ln:Nat)(k er:Nat)(w':World):Rs->Prop
 | .ok q'=>k=q'.st/\er=0/\∃start wv ev wS,RSZ B R w0 w' s q' start wv ev wS/\((q'.st=1∨q'.st=2∨q'.st=3∨q'.st=4)->CurS s q' start (p+1))
 | .er n=>er=n/\∃q' start wv ev wS,q'.line=ln/\RSZ B R w0 w' s q' start wv ev wS
def StP(B R:Nat)(w0:Fx)(s:ByteArray)(p:Nat)(ln:Nat)(r:Rs)(e:Ending)(w':World):Prop:=
 ∃k er:Nat,e=.returned (.tuple #[.int .u8 k,.int .i64 er])/\Hid (StQ B R w0 s p ln k er w' r)
theorem RSZ.setQ{B R:Nat}{w0:Fx}{w:World}{s:ByteArray}{q:Cf}{start:Nat}{wv ev:Value}{wS:World}(h:RSZ B R w0 w s q start wv ev wS)(k:Nat)(c:List UInt8):RSZ B R w0 w s { q with st:=k,cur:=c } start wv ev wS:=⟨h.bx,h.ow,h.si,h.wo,h.br,h.bl⟩
theorem RSZ.setOp{B R:Nat}{w0:Fx}{w:World}{s:ByteArray}{q:Cf}{start:Nat}{wv ev:Value}{wS:World}(h:RSZ B R w0 w s q start wv ev wS)(k o:Nat):RSZ B R w0 (w.setCell ⟨R,2,none⟩ (.int .i64 o)) s { q with st:=k,op:=o } start wv ev wS:=
 ⟨h.bx.p2 o,h.ow,h.si.set h.bx.not_lst 2 _,row_set57 h.wo (.inr rfl) h.bx.not_lst 2 _,h.br,h.bl.set h.br h.bx 2 _⟩
theorem RSZ.setLine{B R:Nat}{w0:Fx}{w:World}{s:ByteArray}{q:Cf}{start:Nat}{wv ev:Value}{wS:World}(h:RSZ B R w0 w s q start wv ev wS)(k o:Nat):RSZ B R w0 (w.setCell ⟨R,1,none⟩ (.int .i64 o)) s { q with st:=k,line:=o } start wv ev wS:=
 ⟨h.bx.p1 o,h.ow,h.si.set h.bx.not_lst 1 _,row_set57 h.wo (.inr rfl) h.bx.not_lst 1 _,h.br,h.bl.set h.br h.bx 1 _⟩
theorem RSZ.setStart{B R:Nat}{w0:Fx}{w:World}{s:ByteArray}{q:Cf}{start:Nat}{wv ev:Value}{wS:World}(h:RSZ B R w0 w s q start wv ev wS)(k:Nat)(c:List UInt8)(o:Nat):RSZ B R w0 (w.setCell ⟨R,3,none⟩ (.int .i64 o)) s { q with st:=k,cur:=c } o wv ev wS:=
 ⟨h.bx.p3 o,h.ow,h.si.set h.bx.not_lst 3 _,row_set57 h.wo (.inr rfl) h.bx.not_lst 3 _,h.br,h.bl.set h.br h.bx 3 _⟩
theorem bz(c:UInt8)(k:UInt8)(h:c=k):((c.toNat:Nat):Int)=((k.toNat:Nat):Int):=by rw[h]
theorem nbz(c:UInt8)(k:UInt8)(h:¬ c=k):(((c.toNat:Nat):Int) == ((k.toNat:Nat):Int))=false:=by
 have:=bI_eq c k
 unfold bI at this
 rw[this];simpa using h
theorem outside51(B R:Nat)(w0:Fx)(w:World)(s:ByteArray)(q:Cf)(start:Nat)(wv ev:Value)(wS:World)(p:Nat)(h:RSZ B R w0 w s q start wv ev wS)(hp:p<s.size)(hs:s.size<=1000000)(hl:q.line<=1000000)(ho:q.op<=1000000)(he:q.es.length<=1000000) :
  Calls Tryz.prog 59 #[.pointer (some ⟨R,0,none⟩),.int .i64 p] w (StP B R w0 s p q.line (outR q s[p] (s.data.toList.drop (p+1)))):=by
 have c0:=h.bx.c0
 have c1:=h.bx.c1
 have c2:=h.bx.c2
 have f1:=h.bx.fz 1
 have f2:=h.bx.fz 2
 have hlt:=h.bx.lt
 have hp':(p:Int)<(s.size:Int):=by omega
 have n59:=nbz s[p] 59
 have n40:=nbz s[p] 40
 have n41:=nbz s[p] 41
 have n10:=nbz s[p] 10
 simp only[show ((59:UInt8).toNat:Int)=59 from rfl,show ((40:UInt8).toNat:Int)=40 from rfl,show ((41:UInt8).toNat:Int)=41 from rfl,show ((10:UInt8).toNat:Int)=10 from rfl] at n59 n40 n41 n10
 have HR:=Lib.hid h
 by_cases h59:s[p]=59
 ·have e:=bz s[p] 59 h59
  have HX:Hid (outR q s[p] (s.data.toList.drop (p+1))=.ok { q with st:=6 }):=(by show _=_;simp[outR,outF,h59])
  rw[HX.out]
  have e':((s[p].toNat:Nat):Int)=59:=e
  clear h n59 n40 n41 n10 h59 e HX
  go_enter Tryz.func59,Tryz.ntmps59
  go_wp2_with fail
  go_ret2
  exact ⟨6,0,rfl,rfl,rfl,_,_,_,_,HR.out.setQ 6 q.cur,by simp⟩
 ·by_cases h40:s[p]=40
  ·have e':((s[p].toNat:Nat):Int)=40:=bz s[p] 40 h40
   have HX:Hid (outR q s[p] (s.data.toList.drop (p+1))=.ok { q with st:=0,op:=q.op+1 }):=(by show _=_;simp[outR,outF,h40])
   rw[HX.out]
   have HO:=Lib.hid (h.setOp 0 (q.op+1))
   clear h n59 n40 n41 n10 h40 h59 HX
   go_enter Tryz.func59,Tryz.ntmps59
   go_wp2_with fail
   go_ret2
   exact ⟨0,0,rfl,rfl,rfl,_,_,_,_,HO.out,by simp⟩
  ·by_cases h41:s[p]=41
   ·have e':((s[p].toNat:Nat):Int)=41:=bz s[p] 41 h41
    by_cases hop:q.op=0
    ·have HX:Hid (outR q s[p] (s.data.toList.drop (p+1))=.er 230):=(by show _=_;simp[outR,outF,h41,hop])
     rw[HX.out]
     rw[hop] at c2
     clear h n59 n40 n41 n10 h41 h40 h59 HX hop
     go_enter Tryz.func59,Tryz.ntmps59
     go_wp2_with fail
     go_ret2
     exact ⟨0,230,rfl,rfl,_,_,_,_,_,rfl,HR.out⟩
    ·have HX:Hid (outR q s[p] (s.data.toList.drop (p+1))=.ok { q with st:=0,op:=q.op - 1 }):=(by show _=_;simp[outR,outF,h41,hop])
     rw[HX.out]
     have HO:=Lib.hid (h.setOp 0 (q.op - 1))
     have hop1:¬ (q.op:Int)=0:=by omega
     have hop2:((q.op:Int) == 0)=false:=by simpa using hop1
     have hz:((q.op - 1:Nat):Int)=(q.op:Int) - 1:=by omega
     rw[hz] at HO
     clear h n59 n40 n41 n10 h41 h40 h59 HX hop hz
     go_enter Tryz.func59,Tryz.ntmps59
     go_wp2_with fail
     go_ret2
     exact ⟨0,0,rfl,rfl,rfl,_,_,_,_,HO.out,by simp⟩
   ·by_cases h10:s[p]=10
    ·have e':((s[p].toNat:Nat):Int)=10:=bz s[p] 10 h10
     have HL:=Lib.hid (h.setLine 0 (q.line+1))
     have d2:=HL.out.bx.c2
     by_cases hop:q.op=0
     ·have HX:Hid (outR q s[p] (s.data.toList.drop (p+1))=.ok (beginF (closeF { q with st:=0,line:=q.line+1 }) (s.data.toList.drop (p+1)))):=(by show _=_;simp[outR,outF,h10,hop])
      rw[HX.out]
      have KC:Hid (∀W,RSZ B R w0 W s { q with st:=0,line:=q.line+1 } start wv ev wS->Calls Tryz.prog 83 #[.pointer (some ⟨R,0,none⟩)] W fun e w'=>e=.returned (.tuple #[])/\Hid (∃wv' ev',RC B R w0 w' s (closeF { q with st:=0,line:=q.line+1 }) start wv' ev')):=fun W hW=>close65 B R w0 W s _ start wv ev wS hW he
      have KB:Hid (∀W wv' ev',RC B R w0 W s (closeF { q with st:=0,line:=q.line+1 }) start wv' ev'->Calls Tryz.prog 33 #[.pointer (some ⟨R,0,none⟩),.int .i64 ((p+1:Nat):Int)] W fun e w'=>e=.returned (.tuple #[])/\Hid (∃wS,RSZ B R w0 w' s (beginF (closeF { q with st:=0,line:=q.line+1 }) (s.data.toList.drop (p+1))) start (.slice none 0 0) ev' wS)):=fun W wv' ev' hW=>begin28 B R w0 W s _ start wv' ev' (p+1) hW (by omega)
      rw[hop] at d2
      rw[show ((p+1:Nat):Int)=(p:Int)+1 by omega] at KB
      rw[show ((q.line+1:Nat):Int)=(q.line:Int)+1 by omega] at HL d2
      clear h n59 n40 n41 n10 h41 h40 h59 h10 HX hop c2
      go_enter Tryz.func59,Tryz.ntmps59
      go_wp2_with fail
      refine (KC.out _ HL.out).mono ?_
      rintro e w1 ⟨rfl,H1⟩
      obtain ⟨wv',ev',hrc⟩:=H1.out
      have H2:=Lib.hid hrc
      clear hrc H1
      go_wp2_with fail
      refine (KB.out _ _ _ H2.out).mono ?_
      rintro e w2 ⟨rfl,H3⟩
      go_wp2_with fail
      go_ret2
      obtain ⟨wS',h3⟩:=H3.out
      exact ⟨0,0,rfl,rfl,rfl,_,_,_,_,h3,by simp[beginF,closeF]⟩
     ·have HX:Hid (outR q s[p] (s.data.toList.drop (p+1))=.ok { q with st:=0,line:=q.line+1 }):=(by show _=_;simp[outR,outF,h10,hop])
      rw[HX.out]
      have hop1:¬ (q.op:Int)=0:=by omega
      have hop2:((q.op:Int) == 0)=false:=by simpa using hop1
      rw[show ((q.line+1:Nat):Int)=(q.line:Int)+1 by omega] at HL d2
      clear h n59 n40 n41 n10 h41 h40 h59 h10 HX hop
      go_enter Tryz.func59,Tryz.ntmps59
      go_wp2_with fail
      go_ret2
      exact ⟨0,0,rfl,rfl,rfl,_,_,_,_,HL.out,by simp⟩
    ·have HX:Hid (outR q s[p] (s.data.toList.drop (p+1))=.ok { q with st:=0 }):=(by show _=_;simp[outR,outF,h59,h40,h41,h10])
     rw[HX.out]
     have m59:=n59 h59
     have m40:=n40 h40
     have m41:=n41 h41
     have m10:=n10 h10
     clear h n59 n40 n41 n10 h41 h40 h59 h10 HX
     go_enter Tryz.func59,Tryz.ntmps59
     go_wp2_with fail
     go_ret2
     exact ⟨0,0,rfl,rfl,rfl,_,_,_,_,HR.out.setQ 0 q.cur,by simp⟩
theorem RSZ.setStartI{B R:Nat}{w0:Fx}{w:World}{s:ByteArray}{q:Cf}{start:Nat}{wv ev:Value}{wS:World}(h:RSZ B R w0 w s q start wv ev wS)(k:Nat)(c:List UInt8)(o:Nat)(z:Int)(hz:z=(o:Int)):RSZ B R w0 (w.setCell ⟨R,3,none⟩ (.int .i64 z)) s { q with st:=k,cur:=c } o wv ev wS:=by
 subst hz;exact h.setStart k c o
theorem take_next(s:ByteArray)(p:Nat)(h:p<s.size):s.data.toList.take (p+1)=s.data.toList.take p++[s[p]]:=by
 rw[List.take_succ_eq_append_getElem (by simpa using h)];rfl
theorem CurS.push{s:ByteArray}{q:Cf}{start p:Nat}(h:CurS s q start p)(hp:p<s.size)(k:Nat):CurS s { q with st:=k,cur:=q.cur++[s[p]] } start (p+1):=by
 obtain ⟨h1,h2,h3⟩:=h
 refine ⟨by omega,by omega,?_⟩
 simp only
 rw[take_next s p hp,List.drop_append_of_le_length (by simp;omega),h3]
theorem CurS.one{s:ByteArray}(q:Cf){p:Nat}(hp:p<s.size)(k:Nat):CurS s { q with st:=k,cur:=[s[p]] } p (p+1):=by
 refine ⟨by omega,by omega,?_⟩
 simp only
 rw[take_next s p hp,List.drop_append_of_le_length (by simp;omega),List.drop_of_length_le (by simp;omega)];rfl
theorem CurS.none{s:ByteArray}(q:Cf){p:Nat}(hp:p<s.size)(k:Nat):CurS s { q with st:=k,cur:=[] } (p+1) (p+1):=by
 refine ⟨by omega,by omega,?_⟩
 simp only
 rw[List.drop_of_length_le (by simp;omega)]
theorem first47(B R:Nat)(w0:Fx)(w:World)(s:ByteArray)(q:Cf)(start:Nat)(wv ev:Value)(wS:World)(p:Nat)(h:RSZ B R w0 w s q start wv ev wS)(hp:p<s.size)(hs:s.size<=1000000)(hl:q.line<=1000000)(ho:q.op<=1000000)(he:q.es.length<=1000000) :
  Calls Tryz.prog 55 #[.pointer (some ⟨R,0,none⟩),.int .i64 p] w (StP B R w0 s p q.line (firstF q s[p] (s.data.toList.drop (p+1)))):=by
 have c0:=h.bx.c0
 have c3:=h.bx.c3
 have f3:=h.bx.fz 3
 have hlt:=h.bx.lt
 have hp':(p:Int)<(s.size:Int):=by omega
 have K50:=Lib.hid (fun w=>ends50 ((s[p].toNat:Nat):Int) w)
 have HZ:Hid (endsz ((s[p].toNat:Nat):Int)=endsW s[p]):=endsz_bI s[p]
 rw[HZ.out] at K50
 have HR:=Lib.hid h
 cases hen:endsW s[p] with
 |true=>
  have KO:=Lib.hid (outside51 B R w0 w s q start wv ev wS p h hp hs hl ho he)
  have HX:Hid (firstF q s[p] (s.data.toList.drop (p+1))=outR q s[p] (s.data.toList.drop (p+1))):=(by show _=_;simp[firstF,hen])
  rw[HX.out]
  rw[hen] at K50
  clear h HX HZ hen
  go_enter Tryz.func55,Tryz.ntmps55
  go_wp2_with fail
  refine (K50.out _).mono ?_
  rintro e w1 ⟨rfl,rfl⟩
  go_wp2_with fail
  refine KO.out.mono ?_
  rintro e w2 ⟨k,er,rfl,H2⟩
  go_wp2_with fail
  go_ret2
  exact ⟨k,er,rfl,H2⟩
 |false=>
  rw[hen] at K50
  have HX:Hid (firstF q s[p] (s.data.toList.drop (p+1))=if s[p]=34 then .ok { q with st:=3,cur:=[] } else if s[p]=92 then .ok { q with st:=2,cur:=[s[p]] } else .ok { q with st:=1,cur:=[s[p]] }):=(by show _=_;simp[firstF,hen])
  rw[HX.out]
  have n34:=nbz s[p] 34
  have n92:=nbz s[p] 92
  simp only[show ((34:UInt8).toNat:Int)=34 from rfl,show ((92:UInt8).toNat:Int)=92 from rfl] at n34 n92
  by_cases h34:s[p]=34
  ·have e':((s[p].toNat:Nat):Int)=34:=bz s[p] 34 h34
   simp only[e'] at K50
   rw[if_pos h34]
   have HS0:=Lib.hid (h.setStart 0 q.cur p)
   have HS:=Lib.hid (HS0.out.setStartI 3 [] (p+1) ((p:Int)+1) (by omega))
   have d3:=HS0.out.bx.c3
   have g3:=HS0.out.bx.fz 3
   have HC:=Lib.hid (CurS.none (s:=s) q hp 3)
   clear h HX HZ hen n34 n92 h34
   go_enter Tryz.func55,Tryz.ntmps55
   go_wp2_with fail
   refine (K50.out _).mono ?_
   rintro e w1 ⟨rfl,rfl⟩
   go_wp2_with fail
   go_ret2
   exact ⟨3,0,rfl,rfl,rfl,_,_,_,_,HS.out,fun _=>HC.out⟩
  ·rw[if_neg h34]
   have m34:=n34 h34
   by_cases h92:s[p]=92
   ·have e':((s[p].toNat:Nat):Int)=92:=bz s[p] 92 h92
    simp only[e'] at K50
    rw[if_pos h92]
    have HS:=Lib.hid (h.setStart 2 [s[p]] p)
    have HC:=Lib.hid (CurS.one (s:=s) q hp 2)
    clear h HX HZ hen n34 n92 h34 h92 m34
    go_enter Tryz.func55,Tryz.ntmps55
    go_wp2_with fail
    refine (K50.out _).mono ?_
    rintro e w1 ⟨rfl,rfl⟩
    go_wp2_with fail
    go_ret2
    exact ⟨2,0,rfl,rfl,rfl,_,_,_,_,HS.out,fun _=>HC.out⟩
   ·rw[if_neg h92]
    have m92:=n92 h92
    have HS:=Lib.hid (h.setStart 1 [s[p]] p)
    have HC:=Lib.hid (CurS.one (s:=s) q hp 1)
    clear h HX HZ hen n34 n92 h34 h92
    go_enter Tryz.func55,Tryz.ntmps55
    go_wp2_with fail
    refine (K50.out _).mono ?_
    rintro e w1 ⟨rfl,rfl⟩
    go_wp2_with fail
    go_ret2
    exact ⟨1,0,rfl,rfl,rfl,_,_,_,_,HS.out,fun _=>HC.out⟩
theorem next48(B R:Nat)(w0:Fx)(w:World)(s:ByteArray)(q:Cf)(start:Nat)(wv ev:Value)(wS:World)(p:Nat)(h:RSZ B R w0 w s q start wv ev wS)(hc:CurS s q start p)(hp:p<s.size)(hs:s.size<=1000000)(hl:q.line<=1000000)(ho:q.op<=1000000)(he:q.es.length<=1000000)(hw:q.ws.length<=64) :
  Calls Tryz.prog 56 #[.pointer (some ⟨R,0,none⟩),.int .i64 p] w (StP B R w0 s p q.line (nextF q s[p] (s.data.toList.drop (p+1)))):=by
 have c0:=h.bx.c0
 have hlt:=h.bx.lt
 have hp':(p:Int)<(s.size:Int):=by omega
 have K50:=Lib.hid (fun w=>ends50 ((s[p].toNat:Nat):Int) w)
 have HZ:Hid (endsz ((s[p].toNat:Nat):Int)=endsW s[p]):=endsz_bI s[p]
 rw[HZ.out] at K50
 have HR:=Lib.hid h
 cases hen:endsW s[p] with
 |true=>
  have KK:=Lib.hid (keep64 B R w0 w s q start wv ev wS p false h hw hc hs)
  rw[hen] at K50
  cases hk:keepF q false with
  |none=>
   have HX:Hid (nextF q s[p] (s.data.toList.drop (p+1))=.er 3):=(by show _=_;simp[nextF,hen,hk])
   rw[HX.out]
   have HKK:=Lib.hid hk
   clear h HX HZ hen hk
   go_enter Tryz.func56,Tryz.ntmps56
   go_wp2_with fail
   refine (K50.out _).mono ?_
   rintro e w1 ⟨rfl,rfl⟩
   go_wp2_with fail
   refine KK.out.mono ?_
   rintro e w2 ⟨er,rfl,H2⟩
   rcases H2.out with ⟨k1,rfl,wv2,ev2,wS2,k3⟩|⟨rfl,q',k1,start2,wv2,ev2,k3⟩
   ·have H3:=Lib.hid k3
    clear H2 k1 k3
    go_wp2_with fail
    go_ret2
    exact ⟨0,3,rfl,rfl,_,_,_,_,_,rfl,H3.out⟩
   ·exfalso
    rw[HKK.out] at k1;cases k1
  |some q'=>
   have HX:Hid (nextF q s[p] (s.data.toList.drop (p+1))=outR q' s[p] (s.data.toList.drop (p+1))):=(by show _=_;simp[nextF,hen,hk])
   rw[HX.out]
   have HKK:=Lib.hid hk
   have KO:Hid (∀W start wv ev wS,RSZ B R w0 W s q' start wv ev wS->Calls Tryz.prog 59 #[.pointer (some ⟨R,0,none⟩),.int .i64 p] W (StP B R w0 s p q.line (outR q' s[p] (s.data.toList.drop (p+1))))):=fun W start wv ev wS hW=>by
    have h1:=keepF_es hk
    have h2:=keep_line hk
    have:=outside51 B R w0 W s q' start wv ev wS p hW hp hs (by omega) (by omega) (by rw[h1.1];exact he)
    rw[h2] at this;exact this
   clear h HX HZ hen hk
   go_enter Tryz.func56,Tryz.ntmps56
   go_wp2_with fail
   refine (K50.out _).mono ?_
   rintro e w1 ⟨rfl,rfl⟩
   go_wp2_with fail
   refine KK.out.mono ?_
   rintro e w2 ⟨er,rfl,H2⟩
   rcases H2.out with ⟨k1,rfl,wv2,ev2,wS2,k3⟩|⟨rfl,q2,k1,wv2,ev2,wS2,k3⟩
   ·exfalso
    rw[HKK.out] at k1;cases k1
   ·rw[HKK.out] at k1
    cases k1
    have KO2:=Lib.hid (KO.out w2 _ _ _ _ k3)
    clear H2 k3 KO
    go_wp2_with fail
    refine KO2.out.mono ?_
    rintro e w3 ⟨k,er,rfl,H4⟩
    go_wp2_with fail
    go_ret2
    exact ⟨k,er,rfl,H4⟩
 |false=>
  rw[hen] at K50
  have HX:Hid (nextF q s[p] (s.data.toList.drop (p+1))=if s[p]=34 then .er 230 else if s[p]=92 then .ok { q with st:=2,cur:=q.cur++[s[p]] } else .ok { q with st:=1,cur:=q.cur++[s[p]] }):=(by show _=_;simp[nextF,hen])
  rw[HX.out]
  have n34:=nbz s[p] 34
  have n92:=nbz s[p] 92
  simp only[show ((34:UInt8).toNat:Int)=34 from rfl,show ((92:UInt8).toNat:Int)=92 from rfl] at n34 n92
  by_cases h34:s[p]=34
  ·have e':((s[p].toNat:Nat):Int)=34:=bz s[p] 34 h34
   simp only[e'] at K50
   rw[if_pos h34]
   clear h HX HZ hen n34 n92 h34
   go_enter Tryz.func56,Tryz.ntmps56
   go_wp2_with fail
   refine (K50.out _).mono ?_
   rintro e w1 ⟨rfl,rfl⟩
   go_wp2_with fail
   go_ret2
   exact ⟨0,230,rfl,rfl,_,_,_,_,_,rfl,HR.out⟩
  ·rw[if_neg h34]
   have m34:=n34 h34
   by_cases h92:s[p]=92
   ·have e':((s[p].toNat:Nat):Int)=92:=bz s[p] 92 h92
    simp only[e'] at K50
    rw[if_pos h92]
    have HS:=Lib.hid (h.setQ 2 (q.cur++[s[p]]))
    have HC:=Lib.hid (hc.push hp 2)
    clear h HX HZ hen n34 n92 h34 h92 m34 hc
    go_enter Tryz.func56,Tryz.ntmps56
    go_wp2_with fail
    refine (K50.out _).mono ?_
    rintro e w1 ⟨rfl,rfl⟩
    go_wp2_with fail
    go_ret2
    exact ⟨2,0,rfl,rfl,rfl,_,_,_,_,HS.out,fun _=>HC.out⟩
   ·rw[if_neg h92]
    have m92:=n92 h92
    have HS:=Lib.hid (h.setQ 1 (q.cur++[s[p]]))
    have HC:=Lib.hid (hc.push hp 1)
    clear h HX HZ hen n34 n92 h34 h92 hc
    go_enter Tryz.func56,Tryz.ntmps56
    go_wp2_with fail
    refine (K50.out _).mono ?_
    rintro e w1 ⟨rfl,rfl⟩
    go_wp2_with fail
    go_ret2
    exact ⟨1,0,rfl,rfl,rfl,_,_,_,_,HS.out,fun _=>HC.out⟩
theorem quot49(B R:Nat)(w0:Fx)(w:World)(s:ByteArray)(q:Cf)(start:Nat)(wv ev:Value)(wS:World)(p:Nat)(h:RSZ B R w0 w s q start wv ev wS)(hc:CurS s q start p)(hp:p<s.size)(hs:s.size<=1000000)(hw:q.ws.length<=64) :
  Calls Tryz.prog 57 #[.pointer (some ⟨R,0,none⟩),.int .i64 p] w (StP B R w0 s p q.line (quotF q s[p])):=by
 have c0:=h.bx.c0
 have hlt:=h.bx.lt
 have hp':(p:Int)<(s.size:Int):=by omega
 have HR:=Lib.hid h
 have n34:=nbz s[p] 34
 have n92:=nbz s[p] 92
 simp only[show ((34:UInt8).toNat:Int)=34 from rfl,show ((92:UInt8).toNat:Int)=92 from rfl] at n34 n92
 by_cases h34:s[p]=34
 ·have e':((s[p].toNat:Nat):Int)=34:=bz s[p] 34 h34
  have KK:=Lib.hid (keep64 B R w0 w s q start wv ev wS p true h hw hc hs)
  obtain ⟨X,hX⟩:∃X,quotF q s[p]=X:=⟨_,rfl⟩
  have HX:Hid (X=match keepF q true with|none=>.er 3|some q'=>.ok { q' with st:=5 }):=(by show _=_;rw[<- hX];simp only[quotF,h34,if_true];rfl)
  rw[hX]
  clear h n34 n92 h34 hX
  go_enter Tryz.func57,Tryz.ntmps57
  go_wp2_with fail
  refine KK.out.mono ?_
  rintro e w2 ⟨er,rfl,H2⟩
  have H3:Hid (StQ B R w0 s p q.line 5 er w2 X):=by
   rw[HX.out]
   rcases H2.out with ⟨k1,rfl,wv2,ev2,wS2,k3⟩|⟨rfl,q',k1,start2,wv2,ev2,k3⟩
   ·rw[k1];exact ⟨rfl,_,_,_,_,_,rfl,k3⟩
   ·rw[k1];exact ⟨rfl,rfl,_,_,_,_,k3.setQ 5 q'.cur,by simp⟩
  clear H2
  go_wp2_with fail
  go_ret2
  exact ⟨5,er,rfl,H3⟩
 ·have m34:=n34 h34
  by_cases h92:s[p]=92
  ·have e':((s[p].toNat:Nat):Int)=92:=bz s[p] 92 h92
   have HX:Hid (quotF q s[p]=.ok { q with st:=4,cur:=q.cur++[s[p]] }):=(by show _=_;simp[quotF,h34,h92])
   rw[HX.out]
   have HS:=Lib.hid (h.setQ 4 (q.cur++[s[p]]))
   have HC:=Lib.hid (hc.push hp 4)
   clear h HX n34 n92 h34 h92 hc m34
   go_enter Tryz.func57,Tryz.ntmps57
   go_wp2_with fail
   go_ret2
   exact ⟨4,0,rfl,rfl,rfl,_,_,_,_,HS.out,fun _=>HC.out⟩
  ·have m92:=n92 h92
   have HX:Hid (quotF q s[p]=.ok { q with st:=3,cur:=q.cur++[s[p]] }):=(by show _=_;simp[quotF,h34,h92])
   rw[HX.out]
   have HS:=Lib.hid (h.setQ 3 (q.cur++[s[p]]))
   have HC:=Lib.hid (hc.push hp 3)
   clear h HX n34 n92 h34 h92 hc
   go_enter Tryz.func57,Tryz.ntmps57
   go_wp2_with fail
   go_ret2
   exact ⟨3,0,rfl,rfl,rfl,_,_,_,_,HS.out,fun _=>HC.out⟩
def FnQ(B R:Nat)(w0:Fx)(s:ByteArray)(a b:Nat)(w':World):Rt->Prop
 | .er e l=>a=e/\b=l/\Fr B w0 w'
 | .ok es=>a=0/\b=0/\∃q start wv ev,q.es=es/\RC B R w0 w' s q start wv ev
def FnP(B R:Nat)(w0:Fx)(s:ByteArray)(r:Rt)(e:Ending)(w':World):Prop:=
 ∃a b:Nat,e=.returned (.agg #[.int .i64 a,.int .i64 b])/\Hid (FnQ B R w0 s a b w' r)
def Fx.put(x:Fx)(j:Nat)(a b:Int):Fx:=⟨x.w,(j,a,b)::x.P⟩
theorem Fr.put{B:Nat}{x:Fx}{w:World}(h:Fr B x w)(j:Nat)(a b:Int)(hj:w.heap[j]?=some (.cells #[.int .i64 a,.int .i64 b] 28 (0,0))):Fr B (x.put j a b) w:=by
 refine ⟨h.1,fun k hk=>?_⟩
 rcases List.mem_cons.1 hk with rfl|hk
 ·exact hj
 ·exact h.2 k hk
theorem Fr.cell{B:Nat}{x:Fx}{w:World}{j:Nat}{a b:Int}(h:Fr B (x.put j a b) w):w.heap[j]?=some (.cells #[.int .i64 a,.int .i64 b] 28 (0,0)):=h.2 (j,a,b) (by simp[Fx.put])
theorem Fr.pop{B:Nat}{x:Fx}{w:World}{j:Nat}{a b:Int}(h:Fr B (x.put j a b) w):Fr B x w:=⟨h.1,fun k hk=>h.2 k (by simp[Fx.put,hk])⟩
theorem RSZ.put{B R:Nat}{w0:Fx}{w:World}{s:ByteArray}{q:Cf}{start:Nat}{wv ev:Value}{wS:World}(h:RSZ B R w0 w s q start wv ev wS)(j:Nat)(a b:Int)(hj:w.heap[j]?=some (.cells #[.int .i64 a,.int .i64 b] 28 (0,0))):RSZ B R (w0.put j a b) w s q start wv ev wS:=⟨h.bx,h.ow,h.si,h.wo,h.br,h.bl.put j a b hj⟩
theorem RC.pop{B R:Nat}{w0:Fx}{w:World}{s:ByteArray}{q:Cf}{start:Nat}{wv ev:Value}{j:Nat}{a b:Int}(h:RC B R (w0.put j a b) w s q start wv ev):RC B R w0 w s q start wv ev:=⟨h.bx,h.ow,h.br,h.bl.pop⟩
theorem rc_c0{w:World}{j:Nat}{a b:Value}(h:w.heap[j]?=some (.cells #[a,b] 28 (0,0))):w.cell? ⟨j,0,none⟩=some a:=by simp[World.cell?,h]
theorem rc_c1{w:World}{j:Nat}{a b:Value}(h:w.heap[j]?=some (.cells #[a,b] 28 (0,0))):w.cell? ⟨j,1,none⟩=some b:=by simp[World.cell?,h]
theorem rc_fz{w:World}{j:Nat}{a b:Value}(h:w.heap[j]?=some (.cells #[a,b] 28 (0,0)))(i:Nat):w.frozen? ⟨j,i,none⟩=false:=by simp[World.frozen?,h]
theorem rc_lt{w:World}{j:Nat}{a b:Value}(h:w.heap[j]?=some (.cells #[a,b] 28 (0,0))):j<w.heap.size:=(Array.getElem?_eq_some_iff.1 h).1
theorem rc_put{w:World}{j:Nat}{a b:Value}(h:w.heap[j]?=some (.cells #[a,b] 28 (0,0)))(x y:Value):((w.setCell ⟨j,0,none⟩ x).setCell ⟨j,1,none⟩ y).heap[j]?=some (.cells #[x,y] 28 (0,0)):=by
 have h1:=heap_set h 0 x
 have h2:=heap_set h1 1 y
 simpa using h2
theorem Fr.res{B:Nat}{x:Fx}{w:World}{j:Nat}(h:Fr B x w)(hB:B<=j)(hj:∀p∈x.P,p.1≠j)(u v:Value):Fr B x ((w.setCell ⟨j,0,none⟩ u).setCell ⟨j,1,none⟩ v):=by
 refine ⟨(h.1.setCell (p:=⟨j,0,none⟩) hB _).setCell (p:=⟨j,1,none⟩) hB _,fun k hk=>?_⟩
 have hne:k.1≠j:=hj k hk
 rw[Below.heap_setCell _ _ _ _ hne,Below.heap_setCell _ _ _ _ hne]
 exact h.2 k hk
theorem RC.res{B R:Nat}{w0:Fx}{w:World}{s:ByteArray}{q:Cf}{start:Nat}{wv ev:Value}{j:Nat}{a b:Value}(h:RC B R w0 w s q start wv ev)(hc:w.heap[j]?=some (.cells #[a,b] 28 (0,0)))(hB:B<=j)(hj:∀p∈w0.P,p.1≠j)(u v:Value):RC B R w0 ((w.setCell ⟨j,0,none⟩ u).setCell ⟨j,1,none⟩ v) s q start wv ev:=by
 have hnl:∀k,lst w k->k≠j:=fun k hk e=>by
  obtain ⟨c,t,h1,h2⟩:=hk
  rw[e,hc] at h1;cases h1;simp at h2
 have hR:R≠j:=fun e=>by
  have:=h.bx;unfold Bx at this
  rw[e,hc] at this;cases this
 refine ⟨h.bx.same (by rw[Below.heap_setCell _ _ _ _ hR,Below.heap_setCell _ _ _ _ hR]),h.ow.go (by simp) (fun k _ hk=>by rw[Below.heap_setCell _ _ _ _ (hnl k hk),Below.heap_setCell _ _ _ _ (hnl k hk)]),h.br,h.bl.res hB hj u v⟩
theorem end52_no(B R:Nat)(w0:Fx)(w:World)(s:ByteArray)(q:Cf)(start:Nat)(wv ev:Value)(wS:World)(k:Nat)(h:RSZ B R w0 w s q start wv ev wS)(hP:∀p∈w0.P,p.1<w.heap.size)(hs:s.size<=1000000)(hk:q.st=k)(hst:k=3∨k=2∨k=4) :
  Calls Tryz.prog 60 #[.pointer (some ⟨R,0,none⟩),.int .u8 k] w (FnP B R w0 s (finF (linesF s.data.toList) q)):=by
 have HX:Hid (finF (linesF s.data.toList) q=.er 230 (linesF s.data.toList)):=(by show _=_;simp[finF,hk,hst])
 rw[HX.out]
 have K13:Hid (∀w,Calls Tryz.prog 84 #[.string s] w fun e w'=>e=.returned (.int .i64 (linesF s.data.toList))/\w'=w):=fun w=>lines13 s w (by omega)
 have hlb:=lines_le s.data.toList
 have hsl:s.data.toList.length=s.size:=by simp
 rw[hsl] at hlb
 generalize linesF s.data.toList=L at*
 have hlt:=h.bx.lt
 have c0:(w.alloc (.cells #[.int .i64 0,.int .i64 0] 28)).cell? ⟨R,0,none⟩=some (.string s):=((al_below w _).cell (p:=⟨R,0,none⟩) hlt).trans h.bx.c0
 have hB:B<=w.heap.size:=by have:=h.br;omega
 have HF:Hid (∀o1 o2,Fr B w0 ((w.alloc o1).alloc o2)):=fun o1 o2=>(h.bl.go (al_below w _) hB).go (al_below _ _) (Nat.le_trans hB (al_below w _).size)
 have K46:=Lib.hid (fun w=>esc46 k w)
 clear h hP HX
 rcases hst with rfl|rfl|rfl
 ·go_enter Tryz.func60,Tryz.ntmps60
  go_wp2_with fail
  refine (K13.out _).mono ?_
  rintro e w1 ⟨rfl,rfl⟩
  go_wp2_with fail
  refine bodyPost_ret (v:=.agg #[.int .i64 230,.int .i64 L]) ?_ rfl ⟨230,L,rfl,rfl,rfl,HF.out _ _⟩
  simp[results,Tryz.results60,go_sem]
 ·go_enter Tryz.func60,Tryz.ntmps60
  go_wp2_with fail
  refine (K13.out _).mono ?_
  rintro e w1 ⟨rfl,rfl⟩
  go_wp2_with fail
  refine (K46.out _).mono ?_
  rintro e w1 ⟨rfl,rfl⟩
  go_wp2_with fail
  refine bodyPost_ret (v:=.agg #[.int .i64 230,.int .i64 L]) ?_ rfl ⟨230,L,rfl,rfl,rfl,HF.out _ _⟩
  simp[results,Tryz.results60,go_sem]
 ·go_enter Tryz.func60,Tryz.ntmps60
  go_wp2_with fail
  refine (K13.out _).mono ?_
  rintro e w1 ⟨rfl,rfl⟩
  go_wp2_with fail
  refine (K46.out _).mono ?_
  rintro e w1 ⟨rfl,rfl⟩
  go_wp2_with fail
  refine bodyPost_ret (v:=.agg #[.int .i64 230,.int .i64 L]) ?_ rfl ⟨230,L,rfl,rfl,rfl,HF.out _ _⟩
  simp[results,Tryz.results60,go_sem]
theorem end52_out(B R:Nat)(w0:Fx)(w:World)(s:ByteArray)(q:Cf)(start:Nat)(wv ev:Value)(wS:World)(k:Nat)(h:RSZ B R w0 w s q start wv ev wS)(hP:∀p∈w0.P,p.1<w.heap.size)(hs:s.size<=1000000)(hk:q.st=k)(hst:k=0∨k=5∨k=6)(he:q.es.length<=1000000) :
  Calls Tryz.prog 60 #[.pointer (some ⟨R,0,none⟩),.int .u8 k] w (FnP B R w0 s (finF (linesF s.data.toList) q)):=by
 have HX:Hid (finF (linesF s.data.toList) q=if 0<q.op then .er 230 (linesF s.data.toList) else .ok (closeF q).es):=(by
  show _=_
  have e1:¬ (q.st=3∨q.st=2∨q.st=4):=by omega
  have e2:¬ q.st=1:=by omega
  simp only[finF,if_neg e1,if_neg e2])
 rw[HX.out]
 have K13:Hid (∀w,Calls Tryz.prog 84 #[.string s] w fun e w'=>e=.returned (.int .i64 (linesF s.data.toList))/\w'=w):=fun w=>lines13 s w (by omega)
 have hlb:=lines_le s.data.toList
 have hsl:s.data.toList.length=s.size:=by simp
 rw[hsl] at hlb
 generalize linesF s.data.toList=L at*
 have hlt:=h.bx.lt
 have c0:(w.alloc (.cells #[.int .i64 0,.int .i64 0] 28)).cell? ⟨R,0,none⟩=some (.string s):=((al_below w _).cell (p:=⟨R,0,none⟩) hlt).trans h.bx.c0
 have hB:B<=w.heap.size:=by have:=h.br;omega
 have HF:Hid (∀o1 o2,Fr B w0 ((w.alloc o1).alloc o2)):=fun o1 o2=>(h.bl.go (al_below w _) hB).go (al_below _ _) (Nat.le_trans hB (al_below w _).size)
 have K46:=Lib.hid (fun w=>esc46 k w)
 have HJ:Hid (∀p∈w0.P,p.1≠w.heap.size):=fun p hp e=>by have:=hP p hp;omega
 have HA:=Lib.hid (h.go (al_below w (.cells #[.int .i64 0,.int .i64 0] 28)))
 have HA2:=Lib.hid (HA.out.go (al_below _ (.cells #[.int .i64 230,.int .i64 L] 28)))
 have hJ0:((w.alloc (.cells #[.int .i64 0,.int .i64 0] 28)).alloc (.cells #[.int .i64 230,.int .i64 L] 28)).heap[w.heap.size]?=some (.cells #[.int .i64 0,.int .i64 0] 28 (0,0)):=by
  rw[(al_below (w.alloc (.cells #[.int .i64 0,.int .i64 0] 28)) _).block w.heap.size (by simp)]
  exact heap_alloc_new w _
 have hJ9:((w.alloc (.cells #[.int .i64 0,.int .i64 0] 28)).alloc (.cells #[.int .i64 230,.int .i64 L] 28)).heap[w.heap.size+1]?=some (.cells #[.int .i64 230,.int .i64 L] 28 (0,0)):=by
  have:=heap_alloc_new (w.alloc (.cells #[.int .i64 0,.int .i64 0] 28)) (.cells #[.int .i64 230,.int .i64 L] 28)
  simpa using this
 have HB:=Lib.hid ((HA2.out.put (w.heap.size+1) 230 L hJ9).put w.heap.size 0 0 hJ0)
 clear hJ9
 have hJ1:=rc_c0 hJ0
 clear hJ0
 have c2:=HA2.out.bx.c2
 have KC:=Lib.hid (close65 B R ((w0.put (w.heap.size+1) 230 L).put w.heap.size 0 0) _ s q start wv ev wS HB.out he)
 have n3:¬ (k:Int)=3:=by omega
 have n3b:((k:Int) == 3)=false:=by simpa using n3
 have n1:¬ (k:Int)=1:=by omega
 have n1b:((k:Int) == 1)=false:=by simpa using n1
 have hd:decide (k=2∨k=4)=false:=by simp;omega
 rw[hd] at K46
 by_cases hop:0<q.op
 ·rw[if_pos hop]
  have hop':(0:Int)<(q.op:Int):=by omega
  clear h hP HX hst hk hd HA HA2 HB KC hop
  go_enter Tryz.func60,Tryz.ntmps60
  go_wp2_with fail
  refine (K13.out _).mono ?_
  rintro e w1 ⟨rfl,rfl⟩
  go_wp2_with fail
  refine (K46.out _).mono ?_
  rintro e w1 ⟨rfl,rfl⟩
  go_wp2_with fail
  refine bodyPost_ret (v:=.agg #[.int .i64 230,.int .i64 L]) ?_ rfl ⟨230,L,rfl,rfl,rfl,HF.out _ _⟩
  simp[results,Tryz.results60,go_sem]
 ·rw[if_neg hop]
  have hop':¬ (0:Int)<(q.op:Int):=by omega
  clear h hP HX hst hk hd HA HA2 HB hop
  go_enter Tryz.func60,Tryz.ntmps60
  go_wp2_with fail
  refine (K13.out _).mono ?_
  rintro e w1 ⟨rfl,rfl⟩
  go_wp2_with fail
  refine (K46.out _).mono ?_
  rintro e w1 ⟨rfl,rfl⟩
  go_wp2_with fail
  refine KC.out.mono ?_
  rintro e w2 ⟨rfl,H2⟩
  obtain ⟨wv',ev',hrc⟩:=H2.out
  have HRC:=Lib.hid hrc
  clear hrc H2
  have HC2:=Lib.hid HRC.out.bl.cell
  have k0:=rc_c0 HC2.out
  have k1:=rc_c1 HC2.out
  have kf:=rc_fz HC2.out
  have kl:=rc_lt HC2.out
  have z0:=rc_c0 (rc_put HC2.out (.int .i64 0) (.int .i64 0))
  have z1:=rc_c1 (rc_put HC2.out (.int .i64 0) (.int .i64 0))
  go_wp2_with fail
  refine bodyPost_ret (v:=.agg #[.int .i64 0,.int .i64 0]) ?_ rfl ⟨0,0,rfl,rfl,rfl,_,_,_,_,rfl,(HRC.out.pop.pop).res HC2.out hB HJ.out _ _⟩
  simp[results,Tryz.results60,go_sem,k0,k1,z0,z1,kl]
theorem end52_word(B R:Nat)(w0:Fx)(w:World)(s:ByteArray)(q:Cf)(start:Nat)(wv ev:Value)(wS:World)(k:Nat)(h:RSZ B R w0 w s q start wv ev wS)(hP:∀p∈w0.P,p.1<w.heap.size)(hs:s.size<=1000000)(hk:q.st=k)(hst:k=1)(hc:CurS s q start s.size)(hw:q.ws.length<=64)(he:q.es.length<=1000000) :
  Calls Tryz.prog 60 #[.pointer (some ⟨R,0,none⟩),.int .u8 k] w (FnP B R w0 s (finF (linesF s.data.toList) q)):=by
 have HX:Hid (finF (linesF s.data.toList) q=match keepF q false with|none=>.er 3 q.line|some q'=>if 0<q'.op then .er 230 (linesF s.data.toList) else .ok (closeF q').es):=(by
  show _=_
  have e1:¬ (q.st=3∨q.st=2∨q.st=4):=by omega
  have e2:q.st=1:=by omega
  simp only[finF,if_neg e1,if_pos e2];rfl)
 rw[HX.out]
 have K13:Hid (∀w,Calls Tryz.prog 84 #[.string s] w fun e w'=>e=.returned (.int .i64 (linesF s.data.toList))/\w'=w):=fun w=>lines13 s w (by omega)
 have hlb:=lines_le s.data.toList
 have hsl:s.data.toList.length=s.size:=by simp
 rw[hsl] at hlb
 generalize linesF s.data.toList=L at*
 have hlt:=h.bx.lt
 have c0:(w.alloc (.cells #[.int .i64 0,.int .i64 0] 28)).cell? ⟨R,0,none⟩=some (.string s):=((al_below w _).cell (p:=⟨R,0,none⟩) hlt).trans h.bx.c0
 have hB:B<=w.heap.size:=by have:=h.br;omega
 have HF:Hid (∀o1 o2,Fr B w0 ((w.alloc o1).alloc o2)):=fun o1 o2=>(h.bl.go (al_below w _) hB).go (al_below _ _) (Nat.le_trans hB (al_below w _).size)
 have K46:=Lib.hid (fun w=>esc46 1 w)
 have HJ:Hid (∀p∈w0.P,p.1≠w.heap.size):=fun p hp e=>by have:=hP p hp;omega
 have HA:=Lib.hid (h.go (al_below w (.cells #[.int .i64 0,.int .i64 0] 28)))
 have HA2:=Lib.hid (HA.out.go (al_below _ (.cells #[.int .i64 230,.int .i64 L] 28)))
 have hJ0:((w.alloc (.cells #[.int .i64 0,.int .i64 0] 28)).alloc (.cells #[.int .i64 230,.int .i64 L] 28)).heap[w.heap.size]?=some (.cells #[.int .i64 0,.int .i64 0] 28 (0,0)):=by
  rw[(al_below (w.alloc (.cells #[.int .i64 0,.int .i64 0] 28)) _).block w.heap.size (by simp)]
  exact heap_alloc_new w _
 have hJ9:((w.alloc (.cells #[.int .i64 0,.int .i64 0] 28)).alloc (.cells #[.int .i64 230,.int .i64 L] 28)).heap[w.heap.size+1]?=some (.cells #[.int .i64 230,.int .i64 L] 28 (0,0)):=by
  have:=heap_alloc_new (w.alloc (.cells #[.int .i64 0,.int .i64 0] 28)) (.cells #[.int .i64 230,.int .i64 L] 28)
  simpa using this
 have HB:=Lib.hid ((HA2.out.put (w.heap.size+1) 230 L hJ9).put w.heap.size 0 0 hJ0)
 clear hJ9
 have hJ1:=rc_c0 hJ0
 clear hJ0
 subst hst
 have c0b:=HA2.out.bx.c0
 have KK:=Lib.hid (keep64 B R ((w0.put (w.heap.size+1) 230 L).put w.heap.size 0 0) _ s q start wv ev wS s.size false HB.out hw hc hs)
 have hd:decide (1=2∨1=4)=false:=by decide
 rw[hd] at K46
 cases hkf:keepF q false with
 |none=>
  simp only
  have HKK:=Lib.hid hkf
  clear h hP HX hk hd HA HA2 HB hkf hc
  go_enter Tryz.func60,Tryz.ntmps60
  go_wp2_with fail
  refine (K13.out _).mono ?_
  rintro e w1 ⟨rfl,rfl⟩
  go_wp2_with fail
  refine (K46.out _).mono ?_
  rintro e w1 ⟨rfl,rfl⟩
  go_wp2_with fail
  refine KK.out.mono ?_
  rintro e w2 ⟨er,rfl,H2⟩
  rcases H2.out with ⟨k1,rfl,wv2,ev2,wS2,k3⟩|⟨rfl,q2,k1,wv2,ev2,wS2,k3⟩
  ·have HRS:=Lib.hid k3
   clear H2 k1 k3
   have c1:=HRS.out.bx.c1
   have HC2:=Lib.hid HRS.out.bl.cell
   have k0:=rc_c0 HC2.out
   have k1:=rc_c1 HC2.out
   have kf:=rc_fz HC2.out
   have kl:=rc_lt HC2.out
   have z0:=rc_c0 (rc_put HC2.out (.int .i64 3) (.int .i64 q.line))
   have z1:=rc_c1 (rc_put HC2.out (.int .i64 3) (.int .i64 q.line))
   go_wp2_with fail
   refine bodyPost_ret (v:=.agg #[.int .i64 3,.int .i64 q.line]) ?_ rfl ⟨3,q.line,rfl,rfl,rfl,HRS.out.bl.pop.pop.res hB HJ.out _ _⟩
   simp[results,Tryz.results60,go_sem,k0,k1,z0,z1,kl]
  ·exfalso
   rw[HKK.out] at k1;cases k1
 |some q'=>
  simp only
  have HKK:=Lib.hid hkf
  have hes:=(keepF_es hkf).1
  have hop0:=(keepF_es hkf).2.1
  have KC:Hid (∀W wv ev wS,RSZ B R ((w0.put (w.heap.size+1) 230 L).put w.heap.size 0 0) W s q' start wv ev wS->Calls Tryz.prog 83 #[.pointer (some ⟨R,0,none⟩)] W fun e w'=>e=.returned (.tuple #[])/\Hid (∃wv' ev',RC B R ((w0.put (w.heap.size+1) 230 L).put w.heap.size 0 0) w' s (closeF q') start wv' ev')):=fun W wv ev wS hW=>close65 B R _ W s q' start wv ev wS hW (by rw[hes];exact he)
  clear h hP HX hk hd HA HA2 HB hkf hc hes hop0
  by_cases hop:0<q'.op
  ·rw[if_pos hop]
   have hop':(0:Int)<(q'.op:Int):=by omega
   clear hop
   go_enter Tryz.func60,Tryz.ntmps60
   go_wp2_with fail
   refine (K13.out _).mono ?_
   rintro e w1 ⟨rfl,rfl⟩
   go_wp2_with fail
   refine (K46.out _).mono ?_
   rintro e w1 ⟨rfl,rfl⟩
   go_wp2_with fail
   refine KK.out.mono ?_
   rintro e w2 ⟨er,rfl,H2⟩
   rcases H2.out with ⟨k1,rfl,wv2,ev2,wS2,k3⟩|⟨rfl,q2,k1,wv2,ev2,wS2,k3⟩
   ·exfalso
    rw[HKK.out] at k1;cases k1
   ·rw[HKK.out] at k1
    cases k1
    have HRS:=Lib.hid k3
    clear H2 k3
    have c2:=HRS.out.bx.c2
    have HC2:=Lib.hid HRS.out.bl.cell
    have HC3:=Lib.hid HRS.out.bl.pop.cell
    have k0:=rc_c0 HC2.out
    have k1:=rc_c1 HC2.out
    have l0:=rc_c0 HC3.out
    have l1:=rc_c1 HC3.out
    have kf:=rc_fz HC2.out
    have kl:=rc_lt HC2.out
    have z0:=rc_c0 (rc_put HC2.out (.int .i64 230) (.int .i64 L))
    have z1:=rc_c1 (rc_put HC2.out (.int .i64 230) (.int .i64 L))
    go_wp2_with fail
    refine bodyPost_ret (v:=.agg #[.int .i64 230,.int .i64 L]) ?_ rfl ⟨230,L,rfl,rfl,rfl,HRS.out.bl.pop.pop.res hB HJ.out _ _⟩
    simp[results,Tryz.results60,go_sem,k0,k1,z0,z1,kl]
  ·rw[if_neg hop]
   have hop':¬ (0:Int)<(q'.op:Int):=by omega
   clear hop
   go_enter Tryz.func60,Tryz.ntmps60
   go_wp2_with fail
   refine (K13.out _).mono ?_
   rintro e w1 ⟨rfl,rfl⟩
   go_wp2_with fail
   refine (K46.out _).mono ?_
   rintro e w1 ⟨rfl,rfl⟩
   go_wp2_with fail
   refine KK.out.mono ?_
   rintro e w2 ⟨er,rfl,H2⟩
   rcases H2.out with ⟨k1,rfl,wv2,ev2,wS2,k3⟩|⟨rfl,q2,k1,wv2,ev2,wS2,k3⟩
   ·exfalso
    rw[HKK.out] at k1;cases k1
   ·rw[HKK.out] at k1
    cases k1
    have HRS:=Lib.hid k3
    clear H2 k3
    have c2:=HRS.out.bx.c2
    go_wp2_with fail
    refine (KC.out _ _ _ _ HRS.out).mono ?_
    rintro e w3 ⟨rfl,H3⟩
    obtain ⟨wv',ev',hrc⟩:=H3.out
    have HRC:=Lib.hid hrc
    clear hrc H3
    have HC2:=Lib.hid HRC.out.bl.cell
    have k0:=rc_c0 HC2.out
    have k1:=rc_c1 HC2.out
    have kf:=rc_fz HC2.out
    have kl:=rc_lt HC2.out
    have z0:=rc_c0 (rc_put HC2.out (.int .i64 0) (.int .i64 0))
    have z1:=rc_c1 (rc_put HC2.out (.int .i64 0) (.int .i64 0))
    go_wp2_with fail
    refine bodyPost_ret (v:=.agg #[.int .i64 0,.int .i64 0]) ?_ rfl ⟨0,0,rfl,rfl,rfl,_,_,_,_,rfl,(HRC.out.pop.pop).res HC2.out hB HJ.out _ _⟩
    simp[results,Tryz.results60,go_sem,k0,k1,z0,z1,kl]
theorem end52_any(B R:Nat)(w0:Fx)(w:World)(s:ByteArray)(q:Cf)(start:Nat)(wv ev:Value)(wS:World)(k:Nat)(h:RSZ B R w0 w s q start wv ev wS)(hP:∀p∈w0.P,p.1<w.heap.size)(hs:s.size<=1000000)(hk:q.st=k)(hst:k<=6)(hc:q.st=1->CurS s q start s.size)(hw:q.ws.length<=64)(he:q.es.length<=1000000) :
  Calls Tryz.prog 60 #[.pointer (some ⟨R,0,none⟩),.int .u8 k] w (FnP B R w0 s (finF (linesF s.data.toList) q)):=by
 by_cases h1:k=3∨k=2∨k=4
 ·exact end52_no B R w0 w s q start wv ev wS k h hP hs hk h1
 ·by_cases h2:k=1
  ·exact end52_word B R w0 w s q start wv ev wS k h hP hs hk h2 (hc (by omega)) hw he
  ·exact end52_out B R w0 w s q start wv ev wS k h hP hs hk (by omega) he
structure Nb(q:Cf)(p:Nat):Prop where
 st:q.st<=6
 ln:q.line<=p+1
 op:q.op<=p
 es:q.es.length<=p
 ws:q.ws.length<=64
theorem keep_nb{q q':Cf}{b:Bool}(h:keepF q b=some q')(hw:q.ws.length<=64):q'.ws.length<=64/\q'.op=q.op/\q'.line=q.line/\q'.es=q.es:=by
 have h1:=keepF_es h
 have h2:=keep_line h
 unfold keepF at h
 split at h
 ·cases h
 ·refine ⟨?_,h1.2.1,h2,h1.1⟩
  rw[h1.2.2];simp;omega
theorem close_nb(q:Cf):(closeF q).es.length<=q.es.length+1:=by
 unfold closeF;simp only;split <;> simp
theorem out_nb{q q':Cf}{p:Nat}{c:UInt8}{r:List UInt8}(h:outF q c r=some q')(hl:q.line<=p+1)(ho:q.op<=p)(he:q.es.length<=p)(hw:q.ws.length<=64):Nb q' (p+1):=by
 unfold outF at h
 split at h
 ·cases h;exact ⟨by simp,by simp;omega,by simp;omega,by simp;omega,hw⟩
 ·split at h
  ·cases h;exact ⟨by simp,by simp;omega,by simp;omega,by simp;omega,hw⟩
  ·split at h
   ·split at h
    ·cases h
    ·cases h;exact ⟨by simp,by simp;omega,by simp;omega,by simp;omega,hw⟩
   ·split at h
    ·split at h
     ·cases h
      have:=close_nb { q with st:=0,line:=q.line+1 }
      refine ⟨by simp[beginF,closeF],by simp[beginF,closeF];omega,by simp[beginF,closeF];omega,?_,by simp[beginF]⟩
      show (closeF _).es.length<=p+1
      simp only at this;omega
     ·cases h;exact ⟨by simp,by simp;omega,by simp;omega,by simp;omega,hw⟩
    ·cases h;exact ⟨by simp,by simp;omega,by simp;omega,by simp;omega,hw⟩
theorem Nb.step{q q':Cf}{p:Nat}{c:UInt8}{r:List UInt8}(h:Nb q p)(hs:stepF q c r=.ok q'):Nb q' (p+1):=by
 obtain ⟨h1,h2,h3,h4,h5⟩:=h
 have m:∀k cur,k<=6->Nb { q with st:=k,cur:=cur } (p+1):=fun k cur hk=>⟨hk,by simp;omega,by simp;omega,by simp;omega,h5⟩
 unfold stepF at hs
 split at hs
 ·cases hs
 ·split at hs
  ·unfold firstF at hs
   split at hs
   ·exact out_nb (outR_ok hs) h2 h3 h4 h5
   ·split at hs
    ·cases hs;exact m 3 _ (by omega)
    ·split at hs
     ·cases hs;exact m 2 _ (by omega)
     ·cases hs;exact m 1 _ (by omega)
  ·split at hs
   ·unfold nextF at hs
    split at hs
    ·split at hs
     ·cases hs
     ·rename_i q1 hk
      obtain ⟨k1,k2,k3,k4⟩:=keep_nb hk h5
      exact out_nb (outR_ok hs) (by omega) (by omega) (by rw[k4];exact h4) k1
    ·split at hs
     ·cases hs
     ·split at hs
      ·cases hs;exact m 2 _ (by omega)
      ·cases hs;exact m 1 _ (by omega)
   ·split at hs
    ·cases hs;exact m 1 _ (by omega)
    ·split at hs
     ·unfold quotF at hs
      split at hs
      ·split at hs
       ·cases hs
       ·rename_i q1 hk
        obtain ⟨k1,k2,k3,k4⟩:=keep_nb hk h5
        cases hs
        exact ⟨by simp,by simp;omega,by simp;omega,by simp[k4];omega,k1⟩
      ·split at hs
       ·cases hs;exact m 4 _ (by omega)
       ·cases hs;exact m 3 _ (by omega)
     ·split at hs
      ·cases hs;exact m 3 _ (by omega)
      ·split at hs
       ·split at hs
        ·exact out_nb (outR_ok hs) h2 h3 h4 h5
        ·cases hs
       ·split at hs
        ·exact out_nb (outR_ok hs) h2 h3 h4 h5
        ·cases hs;exact ⟨h1,by omega,by omega,by omega,h5⟩
def Cu(s:ByteArray)(q:Cf)(start p:Nat):Prop:=(q.st=1∨q.st=2∨q.st=3∨q.st=4)->CurS s q start p
theorem drop_at(s:ByteArray)(p:Nat)(h:p<s.size):s.data.toList.drop p=s[p]::s.data.toList.drop (p+1):=by
 rw[List.drop_eq_getElem_cons (by simpa using h)];rfl
theorem run29(B R:Nat)(w0:Fx)(w:World)(s:ByteArray)(q0:Cf)(start0:Nat)(wv0 ev0:Value)(wS0:World)(h:RSZ B R w0 w s q0 start0 wv0 ev0 wS0)(hP:∀p∈w0.P,p.1<w.heap.size)(hs:s.size<=100000)(hq:q0.st=0)(hn:Nb q0 0) :
  Calls Tryz.prog 34 #[.pointer (some ⟨R,0,none⟩)] w (FnP B R w0 s (goF (linesF s.data.toList) q0 s.data.toList)):=by
 obtain ⟨G,hG⟩:∃G,goF (linesF s.data.toList) q0 s.data.toList=G:=⟨_,rfl⟩
 rw[hG]
 have hlt:=h.bx.lt
 have hB:B<=w.heap.size:=by have:=h.br;omega
 have HA:=Lib.hid ((h.go (al_below w (.cells #[.int .i64 0,.int .i64 0] 28))).put w.heap.size 0 0 (heap_alloc_new w _))
 have HJ:Hid (∀p∈w0.P,p.1≠w.heap.size):=fun p hp e=>by have:=hP p hp;omega
 have HPP:Hid (∀W:World,w.heap.size<W.heap.size->∀p∈(w0.put w.heap.size 0 0).P,p.1<W.heap.size):=fun W hW p hp=>by
  rcases List.mem_cons.1 hp with rfl|hp
  ·exact hW
  ·have:=hP p hp;omega
 have c0:=HA.out.bx.c0
 have HN:=Lib.hid hn
 have HG:=Lib.hid hG
 have HQ:=Lib.hid hq
 -- what is left to do behind the loop
 have HEND:Hid (∀(W:World) (a b:Nat),FnQ B R (w0.put w.heap.size 0 0) s a b W G->(W.heap[w.heap.size]?=some (.cells #[.int .i64 0,.int .i64 0] 28 (0,0)))/\FnQ B R w0 s a b ((W.setCell ⟨w.heap.size,0,none⟩ (.int .i64 a)).setCell ⟨w.heap.size,1,none⟩ (.int .i64 b)) G):=fun W a b hW=>by
  cases G with
  |er e l=>exact ⟨hW.2.2.cell,hW.1,hW.2.1,hW.2.2.pop.res hB HJ.out _ _⟩
  |ok es=>
   obtain ⟨h1,h2,q,st,wv,ev,h3,h4⟩:=hW
   exact ⟨h4.bl.cell,h1,h2,q,st,wv,ev,h3,h4.pop.res h4.bl.cell hB HJ.out _ _⟩
 clear h hP hn hG hq
 go_enter Tryz.func34,Tryz.ntmps34
 go_wp2
 go_step3
 go_wp2
 go_step3
 go_wp2
 go_loopw [3,4,12] (fun x3 x4 x12 wr=>∃(p k:Nat) (q:Cf) (start:Nat) (wv ev:Value) (wS:World),x3=.int .u8 k/\x4=.int .i64 0/\x12=.int .i64 p/\p<=s.size/\k<=6/\Hid (q.st=k)/\Hid (RSZ B R (w0.put w.heap.size 0 0) wr s q start wv ev wS)/\Hid (goF (linesF s.data.toList) q (s.data.toList.drop p)=G)/\Hid (Cu s q start p)/\Hid (Nb q p)) (fun _ _ x12 _=>s.size - (intOf x12).toNat)
 case atStart=>exact ⟨0,0,q0,start0,wv0,ev0,wS0,rfl,rfl,rfl,Nat.zero_le _,by omega,HQ,HA,(by show _=_;rw[List.drop_zero];exact HG.out),(fun e=>by have:=HQ.out;omega),HN⟩
 case round=>
  obtain ⟨p,k,q,start,wv,ev,wS,rfl,rfl,rfl,hp,hk6,HK,HRS,HGO,HCU,HNB⟩:=hrel
  by_cases hpe:p=s.size
  ·have KE:=Lib.hid (end52_any B R (w0.put w.heap.size 0 0) wr s q start wv ev wS k HRS.out (HPP.out _ (rc_lt HRS.out.bl.cell)) (by omega) HK.out hk6 (fun e=>hpe ▸ HCU.out (.inl e)) HNB.out.ws (by have:=HNB.out.es;omega))
   have HGX:Hid (finF (linesF s.data.toList) q=G):=(by
    show _=_
    rw[<- HGO.out,hpe,List.drop_of_length_le (by simp)];rfl)
   rw[HGX.out] at KE
   have hge:¬ (p:Int)<(s.size:Int):=by omega
   have c0w:=HRS.out.bx.c0
   clear HCU HNB HGO hpe
   go_wp2_with fail
   refine KE.out.mono ?_
   rintro e w2 ⟨a,b,rfl,H2⟩
   have HFN:=Lib.hid (HEND.out w2 a b H2.out)
   have k0:=rc_c0 HFN.out.1
   have k1:=rc_c1 HFN.out.1
   have kf:=rc_fz HFN.out.1
   have kl:=rc_lt HFN.out.1
   have z0:=rc_c0 (rc_put HFN.out.1 (.int .i64 a) (.int .i64 b))
   have z1:=rc_c1 (rc_put HFN.out.1 (.int .i64 a) (.int .i64 b))
   go_wp2_with fail
   try rw[Exit.noGoto_ret]
   refine bodyPost_ret (v:=.agg #[.int .i64 a,.int .i64 b]) ?_ rfl ⟨a,b,rfl,HFN.out.2⟩
   simp[results,Tryz.results34,go_sem,z0,z1,k0,k1,kl]
  ·have hpl:p<s.size:=by omega
   have hpl':(p:Int)<(s.size:Int):=by omega
   have c0w:=HRS.out.bx.c0
   have HD:=Lib.hid (drop_at s p hpl)
   have n10:=nbz s[p] 10
   simp only[show ((10:UInt8).toNat:Int)=10 from rfl] at n10
   have K46:=Lib.hid (fun w=>esc46 k w)
   clear hpe
   cases hX:stepF q s[p] (s.data.toList.drop (p+1)) with
   |er n=>
    have HX:=Lib.hid hX
    have HN0:Hid (n=230∨n=3):=step_er hX
    have HGX:Hid (G=.er n q.line):=(by show _=_;rw[<- HGO.out,HD.out,goF,hX])
    clear hX
    have hkk:k=0∨k=1∨k=2∨k=3∨k=4∨k=5∨k=6:=by omega
    rcases hkk with rfl|rfl|rfl|rfl|rfl|rfl|rfl
    ·rw[show decide ((0:Nat)=2∨(0:Nat)=4)=false from by decide] at K46
     have HSF:Hid (firstF q s[p] (s.data.toList.drop (p+1))=Rs.er n):=(by show _=_;have:=HX.out;simpa [stepF,HK.out] using this)
     clear HX HD HGO
     by_cases h10:s[p]=10
     ·have e10:((s[p].toNat:Nat):Int)=10:=bz s[p] 10 h10
      clear h10 n10
      have KS:=Lib.hid (first47 B R (w0.put w.heap.size 0 0) wr s q start wv ev wS p HRS.out hpl (by omega) (by have:=HNB.out.ln;omega) (by have:=HNB.out.op;omega) (by have:=HNB.out.es;omega))
      rw[HSF.out] at KS
      clear HCU HNB HSF HRS
      go_wp2_with fail
      refine (K46.out _).mono ?_
      rintro e w9 ⟨rfl,rfl⟩
      go_wp2_with fail
      refine KS.out.mono ?_
      rintro e w2 ⟨k2,er,rfl,H2⟩
      obtain ⟨rfl,q2,st2,wv2,ev2,wS2,hl2,r2⟩:=H2.out
      have HLN:=Lib.hid hl2
      have HR2:=Lib.hid r2
      clear H2 r2 hl2
      have hn0:¬ (er:Int)=0:=by have:=HN0.out;omega
      have hn1:((er:Int) == 0)=false:=by simpa using hn0
      have d1:=HR2.out.bx.c1
      rw[HLN.out] at d1
      have HFN:=Lib.hid (HEND.out _ er q.line (by rw[HGX.out];exact ⟨rfl,rfl,HR2.out.bl⟩))
      have k0:=rc_c0 HFN.out.1
      have k1:=rc_c1 HFN.out.1
      have kf:=rc_fz HFN.out.1
      have kl:=rc_lt HFN.out.1
      have z0:=rc_c0 (rc_put HFN.out.1 (.int .i64 (er:Nat)) (.int .i64 q.line))
      have z1:=rc_c1 (rc_put HFN.out.1 (.int .i64 (er:Nat)) (.int .i64 q.line))
      go_wp2_with fail
      try rw[Exit.noGoto_ret]
      refine bodyPost_ret (v:=.agg #[.int .i64 (er:Nat),.int .i64 q.line]) ?_ rfl ⟨er,q.line,rfl,HFN.out.2⟩
      simp[results,Tryz.results34,go_sem,z0,z1,k0,k1,kl]
     ·have m10:=n10 h10
      clear n10
      have KS:=Lib.hid (first47 B R (w0.put w.heap.size 0 0) wr s q start wv ev wS p HRS.out hpl (by omega) (by have:=HNB.out.ln;omega) (by have:=HNB.out.op;omega) (by have:=HNB.out.es;omega))
      rw[HSF.out] at KS
      clear HCU HNB HSF HRS
      go_wp2_with fail
      refine KS.out.mono ?_
      rintro e w2 ⟨k2,er,rfl,H2⟩
      obtain ⟨rfl,q2,st2,wv2,ev2,wS2,hl2,r2⟩:=H2.out
      have HLN:=Lib.hid hl2
      have HR2:=Lib.hid r2
      clear H2 r2 hl2
      have hn0:¬ (er:Int)=0:=by have:=HN0.out;omega
      have hn1:((er:Int) == 0)=false:=by simpa using hn0
      have d1:=HR2.out.bx.c1
      rw[HLN.out] at d1
      have HFN:=Lib.hid (HEND.out _ er q.line (by rw[HGX.out];exact ⟨rfl,rfl,HR2.out.bl⟩))
      have k0:=rc_c0 HFN.out.1
      have k1:=rc_c1 HFN.out.1
      have kf:=rc_fz HFN.out.1
      have kl:=rc_lt HFN.out.1
      have z0:=rc_c0 (rc_put HFN.out.1 (.int .i64 (er:Nat)) (.int .i64 q.line))
      have z1:=rc_c1 (rc_put HFN.out.1 (.int .i64 (er:Nat)) (.int .i64 q.line))
      go_wp2_with fail
      try rw[Exit.noGoto_ret]
      refine bodyPost_ret (v:=.agg #[.int .i64 (er:Nat),.int .i64 q.line]) ?_ rfl ⟨er,q.line,rfl,HFN.out.2⟩
      simp[results,Tryz.results34,go_sem,z0,z1,k0,k1,kl]
    ·rw[show decide ((1:Nat)=2∨(1:Nat)=4)=false from by decide] at K46
     have HSF:Hid (nextF q s[p] (s.data.toList.drop (p+1))=Rs.er n):=(by show _=_;have:=HX.out;simpa [stepF,HK.out] using this)
     clear HX HD HGO
     by_cases h10:s[p]=10
     ·have e10:((s[p].toNat:Nat):Int)=10:=bz s[p] 10 h10
      clear h10 n10
      have KS:=Lib.hid (next48 B R (w0.put w.heap.size 0 0) wr s q start wv ev wS p HRS.out (HCU.out (.inl HK.out)) hpl (by omega) (by have:=HNB.out.ln;omega) (by have:=HNB.out.op;omega) (by have:=HNB.out.es;omega) HNB.out.ws)
      rw[HSF.out] at KS
      clear HCU HNB HSF HRS
      go_wp2_with fail
      refine (K46.out _).mono ?_
      rintro e w9 ⟨rfl,rfl⟩
      go_wp2_with fail
      refine KS.out.mono ?_
      rintro e w2 ⟨k2,er,rfl,H2⟩
      obtain ⟨rfl,q2,st2,wv2,ev2,wS2,hl2,r2⟩:=H2.out
      have HLN:=Lib.hid hl2
      have HR2:=Lib.hid r2
      clear H2 r2 hl2
      have hn0:¬ (er:Int)=0:=by have:=HN0.out;omega
      have hn1:((er:Int) == 0)=false:=by simpa using hn0
      have d1:=HR2.out.bx.c1
      rw[HLN.out] at d1
      have HFN:=Lib.hid (HEND.out _ er q.line (by rw[HGX.out];exact ⟨rfl,rfl,HR2.out.bl⟩))
      have k0:=rc_c0 HFN.out.1
      have k1:=rc_c1 HFN.out.1
      have kf:=rc_fz HFN.out.1
      have kl:=rc_lt HFN.out.1
      have z0:=rc_c0 (rc_put HFN.out.1 (.int .i64 (er:Nat)) (.int .i64 q.line))
      have z1:=rc_c1 (rc_put HFN.out.1 (.int .i64 (er:Nat)) (.int .i64 q.line))
      go_wp2_with fail
      try rw[Exit.noGoto_ret]
      refine bodyPost_ret (v:=.agg #[.int .i64 (er:Nat),.int .i64 q.line]) ?_ rfl ⟨er,q.line,rfl,HFN.out.2⟩
      simp[results,Tryz.results34,go_sem,z0,z1,k0,k1,kl]
     ·have m10:=n10 h10
      clear n10
      have KS:=Lib.hid (next48 B R (w0.put w.heap.size 0 0) wr s q start wv ev wS p HRS.out (HCU.out (.inl HK.out)) hpl (by omega) (by have:=HNB.out.ln;omega) (by have:=HNB.out.op;omega) (by have:=HNB.out.es;omega) HNB.out.ws)
      rw[HSF.out] at KS
      clear HCU HNB HSF HRS
      go_wp2_with fail
      refine KS.out.mono ?_
      rintro e w2 ⟨k2,er,rfl,H2⟩
      obtain ⟨rfl,q2,st2,wv2,ev2,wS2,hl2,r2⟩:=H2.out
      have HLN:=Lib.hid hl2
      have HR2:=Lib.hid r2
      clear H2 r2 hl2
      have hn0:¬ (er:Int)=0:=by have:=HN0.out;omega
      have hn1:((er:Int) == 0)=false:=by simpa using hn0
      have d1:=HR2.out.bx.c1
      rw[HLN.out] at d1
      have HFN:=Lib.hid (HEND.out _ er q.line (by rw[HGX.out];exact ⟨rfl,rfl,HR2.out.bl⟩))
      have k0:=rc_c0 HFN.out.1
      have k1:=rc_c1 HFN.out.1
      have kf:=rc_fz HFN.out.1
      have kl:=rc_lt HFN.out.1
      have z0:=rc_c0 (rc_put HFN.out.1 (.int .i64 (er:Nat)) (.int .i64 q.line))
      have z1:=rc_c1 (rc_put HFN.out.1 (.int .i64 (er:Nat)) (.int .i64 q.line))
      go_wp2_with fail
      try rw[Exit.noGoto_ret]
      refine bodyPost_ret (v:=.agg #[.int .i64 (er:Nat),.int .i64 q.line]) ?_ rfl ⟨er,q.line,rfl,HFN.out.2⟩
      simp[results,Tryz.results34,go_sem,z0,z1,k0,k1,kl]
    ·rw[show decide ((2:Nat)=2∨(2:Nat)=4)=true from by decide] at K46
     by_cases h10:s[p]=10
     ·have e10:((s[p].toNat:Nat):Int)=10:=bz s[p] 10 h10
      have hn:n=230:=by
       have:=HX.out
       simp[stepF,HK.out,h10] at this
       exact this.symm
      subst hn
      clear h10 n10 HX HD HGO HCU HNB
      go_wp2_with fail
      refine (K46.out _).mono ?_
      rintro e w9 ⟨rfl,rfl⟩
      have d1:=HRS.out.bx.c1
      have HFN:=Lib.hid (HEND.out _ 230 q.line (by rw[HGX.out];exact ⟨rfl,rfl,HRS.out.bl⟩))
      have k0:=rc_c0 HFN.out.1
      have k1:=rc_c1 HFN.out.1
      have kf:=rc_fz HFN.out.1
      have kl:=rc_lt HFN.out.1
      have z0:=rc_c0 (rc_put HFN.out.1 (.int .i64 (230:Nat)) (.int .i64 q.line))
      have z1:=rc_c1 (rc_put HFN.out.1 (.int .i64 (230:Nat)) (.int .i64 q.line))
      go_wp2_with fail
      try rw[Exit.noGoto_ret]
      refine bodyPost_ret (v:=.agg #[.int .i64 (230:Nat),.int .i64 q.line]) ?_ rfl ⟨230,q.line,rfl,HFN.out.2⟩
      simp[results,Tryz.results34,go_sem,z0,z1,k0,k1,kl]
     ·exfalso
      have:=HX.out
      simp[stepF,HK.out,h10] at this
    ·rw[show decide ((3:Nat)=2∨(3:Nat)=4)=false from by decide] at K46
     by_cases h10:s[p]=10
     ·have e10:((s[p].toNat:Nat):Int)=10:=bz s[p] 10 h10
      have hn:n=230:=by
       have:=HX.out
       simp[stepF,HK.out,h10] at this
       exact this.symm
      subst hn
      clear h10 n10 HX HD HGO HCU HNB
      have d1:=HRS.out.bx.c1
      have HFN:=Lib.hid (HEND.out _ 230 q.line (by rw[HGX.out];exact ⟨rfl,rfl,HRS.out.bl⟩))
      have k0:=rc_c0 HFN.out.1
      have k1:=rc_c1 HFN.out.1
      have kf:=rc_fz HFN.out.1
      have kl:=rc_lt HFN.out.1
      have z0:=rc_c0 (rc_put HFN.out.1 (.int .i64 (230:Nat)) (.int .i64 q.line))
      have z1:=rc_c1 (rc_put HFN.out.1 (.int .i64 (230:Nat)) (.int .i64 q.line))
      go_wp2_with fail
      try rw[Exit.noGoto_ret]
      refine bodyPost_ret (v:=.agg #[.int .i64 (230:Nat),.int .i64 q.line]) ?_ rfl ⟨230,q.line,rfl,HFN.out.2⟩
      simp[results,Tryz.results34,go_sem,z0,z1,k0,k1,kl]
     ·have m10:=n10 h10
      have HSF:Hid (quotF q s[p]=Rs.er n):=(by show _=_;have:=HX.out;simpa [stepF,HK.out,h10] using this)
      clear HX HD HGO
      clear n10 h10
      have KS:=Lib.hid (quot49 B R (w0.put w.heap.size 0 0) wr s q start wv ev wS p HRS.out (HCU.out (.inr (.inr (.inl HK.out)))) hpl (by omega) HNB.out.ws)
      rw[HSF.out] at KS
      clear HCU HNB HSF HRS
      go_wp2_with fail
      refine KS.out.mono ?_
      rintro e w2 ⟨k2,er,rfl,H2⟩
      obtain ⟨rfl,q2,st2,wv2,ev2,wS2,hl2,r2⟩:=H2.out
      have HLN:=Lib.hid hl2
      have HR2:=Lib.hid r2
      clear H2 r2 hl2
      have hn0:¬ (er:Int)=0:=by have:=HN0.out;omega
      have hn1:((er:Int) == 0)=false:=by simpa using hn0
      have d1:=HR2.out.bx.c1
      rw[HLN.out] at d1
      have HFN:=Lib.hid (HEND.out _ er q.line (by rw[HGX.out];exact ⟨rfl,rfl,HR2.out.bl⟩))
      have k0:=rc_c0 HFN.out.1
      have k1:=rc_c1 HFN.out.1
      have kf:=rc_fz HFN.out.1
      have kl:=rc_lt HFN.out.1
      have z0:=rc_c0 (rc_put HFN.out.1 (.int .i64 (er:Nat)) (.int .i64 q.line))
      have z1:=rc_c1 (rc_put HFN.out.1 (.int .i64 (er:Nat)) (.int .i64 q.line))
      go_wp2_with fail
      try rw[Exit.noGoto_ret]
      refine bodyPost_ret (v:=.agg #[.int .i64 (er:Nat),.int .i64 q.line]) ?_ rfl ⟨er,q.line,rfl,HFN.out.2⟩
      simp[results,Tryz.results34,go_sem,z0,z1,k0,k1,kl]
    ·rw[show decide ((4:Nat)=2∨(4:Nat)=4)=true from by decide] at K46
     by_cases h10:s[p]=10
     ·have e10:((s[p].toNat:Nat):Int)=10:=bz s[p] 10 h10
      have hn:n=230:=by
       have:=HX.out
       simp[stepF,HK.out,h10] at this
       exact this.symm
      subst hn
      clear h10 n10 HX HD HGO HCU HNB
      go_wp2_with fail
      refine (K46.out _).mono ?_
      rintro e w9 ⟨rfl,rfl⟩
      have d1:=HRS.out.bx.c1
      have HFN:=Lib.hid (HEND.out _ 230 q.line (by rw[HGX.out];exact ⟨rfl,rfl,HRS.out.bl⟩))
      have k0:=rc_c0 HFN.out.1
      have k1:=rc_c1 HFN.out.1
      have kf:=rc_fz HFN.out.1
      have kl:=rc_lt HFN.out.1
      have z0:=rc_c0 (rc_put HFN.out.1 (.int .i64 (230:Nat)) (.int .i64 q.line))
      have z1:=rc_c1 (rc_put HFN.out.1 (.int .i64 (230:Nat)) (.int .i64 q.line))
      go_wp2_with fail
      try rw[Exit.noGoto_ret]
      refine bodyPost_ret (v:=.agg #[.int .i64 (230:Nat),.int .i64 q.line]) ?_ rfl ⟨230,q.line,rfl,HFN.out.2⟩
      simp[results,Tryz.results34,go_sem,z0,z1,k0,k1,kl]
     ·exfalso
      have:=HX.out
      simp[stepF,HK.out,h10] at this
    ·rw[show decide ((5:Nat)=2∨(5:Nat)=4)=false from by decide] at K46
     by_cases h10:s[p]=10
     ·cases hen:endsW s[p] with
      |true=>
       have K50:=Lib.hid (fun w=>ends50 ((s[p].toNat:Nat):Int) w)
       have HZ:Hid (endsz ((s[p].toNat:Nat):Int)=endsW s[p]):=endsz_bI s[p]
       rw[HZ.out,hen] at K50
       have HSF:Hid (outR q s[p] (s.data.toList.drop (p+1))=Rs.er n):=(by show _=_;have:=HX.out;simpa [stepF,HK.out,hen] using this)
       have KS:=Lib.hid (outside51 B R (w0.put w.heap.size 0 0) wr s q start wv ev wS p HRS.out hpl (by omega) (by have:=HNB.out.ln;omega) (by have:=HNB.out.op;omega) (by have:=HNB.out.es;omega))
       rw[HSF.out] at KS
       have e10:((s[p].toNat:Nat):Int)=10:=bz s[p] 10 h10
       simp only[e10] at K50
       clear HX HD HGO HSF HCU HNB HRS h10 n10 HZ hen
       go_wp2_with fail
       refine (K46.out _).mono ?_
       rintro e w9 ⟨rfl,rfl⟩
       go_wp2_with fail
       refine (K50.out _).mono ?_
       rintro e w8 ⟨rfl,rfl⟩
       go_wp2_with fail
       refine KS.out.mono ?_
       rintro e w2 ⟨k2,er,rfl,H2⟩
       obtain ⟨rfl,q2,st2,wv2,ev2,wS2,hl2,r2⟩:=H2.out
       have HLN:=Lib.hid hl2
       have HR2:=Lib.hid r2
       clear H2 r2 hl2
       have hn0:¬ (er:Int)=0:=by have:=HN0.out;omega
       have hn1:((er:Int) == 0)=false:=by simpa using hn0
       have d1:=HR2.out.bx.c1
       rw[HLN.out] at d1
       have HFN:=Lib.hid (HEND.out _ er q.line (by rw[HGX.out];exact ⟨rfl,rfl,HR2.out.bl⟩))
       have k0:=rc_c0 HFN.out.1
       have k1:=rc_c1 HFN.out.1
       have kf:=rc_fz HFN.out.1
       have kl:=rc_lt HFN.out.1
       have z0:=rc_c0 (rc_put HFN.out.1 (.int .i64 (er:Nat)) (.int .i64 q.line))
       have z1:=rc_c1 (rc_put HFN.out.1 (.int .i64 (er:Nat)) (.int .i64 q.line))
       go_wp2_with fail
       try rw[Exit.noGoto_ret]
       refine bodyPost_ret (v:=.agg #[.int .i64 (er:Nat),.int .i64 q.line]) ?_ rfl ⟨er,q.line,rfl,HFN.out.2⟩
       simp[results,Tryz.results34,go_sem,z0,z1,k0,k1,kl]
      |false=>
       have K50:=Lib.hid (fun w=>ends50 ((s[p].toNat:Nat):Int) w)
       have HZ:Hid (endsz ((s[p].toNat:Nat):Int)=endsW s[p]):=endsz_bI s[p]
       rw[HZ.out,hen] at K50
       have hn:n=230:=by
        have:=HX.out
        simp[stepF,HK.out,hen] at this
        exact this.symm
       subst hn
       have e10:((s[p].toNat:Nat):Int)=10:=bz s[p] 10 h10
       simp only[e10] at K50
       clear h10 n10 HX HD HGO HCU HNB HZ hen
       go_wp2_with fail
       refine (K46.out _).mono ?_
       rintro e w9 ⟨rfl,rfl⟩
       go_wp2_with fail
       refine (K50.out _).mono ?_
       rintro e w8 ⟨rfl,rfl⟩
       have d1:=HRS.out.bx.c1
       have HFN:=Lib.hid (HEND.out _ 230 q.line (by rw[HGX.out];exact ⟨rfl,rfl,HRS.out.bl⟩))
       have k0:=rc_c0 HFN.out.1
       have k1:=rc_c1 HFN.out.1
       have kf:=rc_fz HFN.out.1
       have kl:=rc_lt HFN.out.1
       have z0:=rc_c0 (rc_put HFN.out.1 (.int .i64 (230:Nat)) (.int .i64 q.line))
       have z1:=rc_c1 (rc_put HFN.out.1 (.int .i64 (230:Nat)) (.int .i64 q.line))
       go_wp2_with fail
       try rw[Exit.noGoto_ret]
       refine bodyPost_ret (v:=.agg #[.int .i64 (230:Nat),.int .i64 q.line]) ?_ rfl ⟨230,q.line,rfl,HFN.out.2⟩
       simp[results,Tryz.results34,go_sem,z0,z1,k0,k1,kl]
     ·cases hen:endsW s[p] with
      |true=>
       have K50:=Lib.hid (fun w=>ends50 ((s[p].toNat:Nat):Int) w)
       have HZ:Hid (endsz ((s[p].toNat:Nat):Int)=endsW s[p]):=endsz_bI s[p]
       rw[HZ.out,hen] at K50
       have HSF:Hid (outR q s[p] (s.data.toList.drop (p+1))=Rs.er n):=(by show _=_;have:=HX.out;simpa [stepF,HK.out,hen] using this)
       have KS:=Lib.hid (outside51 B R (w0.put w.heap.size 0 0) wr s q start wv ev wS p HRS.out hpl (by omega) (by have:=HNB.out.ln;omega) (by have:=HNB.out.op;omega) (by have:=HNB.out.es;omega))
       rw[HSF.out] at KS
       have m10:=n10 h10
       clear HX HD HGO HSF HCU HNB HRS h10 n10 HZ hen
       go_wp2_with fail
       refine (K50.out _).mono ?_
       rintro e w8 ⟨rfl,rfl⟩
       go_wp2_with fail
       refine KS.out.mono ?_
       rintro e w2 ⟨k2,er,rfl,H2⟩
       obtain ⟨rfl,q2,st2,wv2,ev2,wS2,hl2,r2⟩:=H2.out
       have HLN:=Lib.hid hl2
       have HR2:=Lib.hid r2
       clear H2 r2 hl2
       have hn0:¬ (er:Int)=0:=by have:=HN0.out;omega
       have hn1:((er:Int) == 0)=false:=by simpa using hn0
       have d1:=HR2.out.bx.c1
       rw[HLN.out] at d1
       have HFN:=Lib.hid (HEND.out _ er q.line (by rw[HGX.out];exact ⟨rfl,rfl,HR2.out.bl⟩))
       have k0:=rc_c0 HFN.out.1
       have k1:=rc_c1 HFN.out.1
       have kf:=rc_fz HFN.out.1
       have kl:=rc_lt HFN.out.1
       have z0:=rc_c0 (rc_put HFN.out.1 (.int .i64 (er:Nat)) (.int .i64 q.line))
       have z1:=rc_c1 (rc_put HFN.out.1 (.int .i64 (er:Nat)) (.int .i64 q.line))
       go_wp2_with fail
       try rw[Exit.noGoto_ret]
       refine bodyPost_ret (v:=.agg #[.int .i64 (er:Nat),.int .i64 q.line]) ?_ rfl ⟨er,q.line,rfl,HFN.out.2⟩
       simp[results,Tryz.results34,go_sem,z0,z1,k0,k1,kl]
      |false=>
       have K50:=Lib.hid (fun w=>ends50 ((s[p].toNat:Nat):Int) w)
       have HZ:Hid (endsz ((s[p].toNat:Nat):Int)=endsW s[p]):=endsz_bI s[p]
       rw[HZ.out,hen] at K50
       have hn:n=230:=by
        have:=HX.out
        simp[stepF,HK.out,hen] at this
        exact this.symm
       subst hn
       have m10:=n10 h10
       clear h10 n10 HX HD HGO HCU HNB HZ hen
       go_wp2_with fail
       refine (K50.out _).mono ?_
       rintro e w8 ⟨rfl,rfl⟩
       have d1:=HRS.out.bx.c1
       have HFN:=Lib.hid (HEND.out _ 230 q.line (by rw[HGX.out];exact ⟨rfl,rfl,HRS.out.bl⟩))
       have k0:=rc_c0 HFN.out.1
       have k1:=rc_c1 HFN.out.1
       have kf:=rc_fz HFN.out.1
       have kl:=rc_lt HFN.out.1
       have z0:=rc_c0 (rc_put HFN.out.1 (.int .i64 (230:Nat)) (.int .i64 q.line))
       have z1:=rc_c1 (rc_put HFN.out.1 (.int .i64 (230:Nat)) (.int .i64 q.line))
       go_wp2_with fail
       try rw[Exit.noGoto_ret]
       refine bodyPost_ret (v:=.agg #[.int .i64 (230:Nat),.int .i64 q.line]) ?_ rfl ⟨230,q.line,rfl,HFN.out.2⟩
       simp[results,Tryz.results34,go_sem,z0,z1,k0,k1,kl]
    ·rw[show decide ((6:Nat)=2∨(6:Nat)=4)=false from by decide] at K46
     by_cases h10:s[p]=10
     ·have e10:((s[p].toNat:Nat):Int)=10:=bz s[p] 10 h10
      have HSF:Hid (outR q s[p] (s.data.toList.drop (p+1))=Rs.er n):=(by show _=_;have:=HX.out;simpa [stepF,HK.out,h10] using this)
      have KS:=Lib.hid (outside51 B R (w0.put w.heap.size 0 0) wr s q start wv ev wS p HRS.out hpl (by omega) (by have:=HNB.out.ln;omega) (by have:=HNB.out.op;omega) (by have:=HNB.out.es;omega))
      rw[HSF.out] at KS
      clear HX HD HGO HSF HCU HNB HRS h10 n10
      go_wp2_with fail
      refine (K46.out _).mono ?_
      rintro e w9 ⟨rfl,rfl⟩
      go_wp2_with fail
      refine KS.out.mono ?_
      rintro e w2 ⟨k2,er,rfl,H2⟩
      obtain ⟨rfl,q2,st2,wv2,ev2,wS2,hl2,r2⟩:=H2.out
      have HLN:=Lib.hid hl2
      have HR2:=Lib.hid r2
      clear H2 r2 hl2
      have hn0:¬ (er:Int)=0:=by have:=HN0.out;omega
      have hn1:((er:Int) == 0)=false:=by simpa using hn0
      have d1:=HR2.out.bx.c1
      rw[HLN.out] at d1
      have HFN:=Lib.hid (HEND.out _ er q.line (by rw[HGX.out];exact ⟨rfl,rfl,HR2.out.bl⟩))
      have k0:=rc_c0 HFN.out.1
      have k1:=rc_c1 HFN.out.1
      have kf:=rc_fz HFN.out.1
      have kl:=rc_lt HFN.out.1
      have z0:=rc_c0 (rc_put HFN.out.1 (.int .i64 (er:Nat)) (.int .i64 q.line))
      have z1:=rc_c1 (rc_put HFN.out.1 (.int .i64 (er:Nat)) (.int .i64 q.line))
      go_wp2_with fail
      try rw[Exit.noGoto_ret]
      refine bodyPost_ret (v:=.agg #[.int .i64 (er:Nat),.int .i64 q.line]) ?_ rfl ⟨er,q.line,rfl,HFN.out.2⟩
      simp[results,Tryz.results34,go_sem,z0,z1,k0,k1,kl]
     ·exfalso
      have:=HX.out
      simp[stepF,HK.out,h10] at this
   |ok q'=>
    have HX:=Lib.hid hX
    have HNB2:=Lib.hid (HNB.out.step hX)
    have HGX:Hid (goF (linesF s.data.toList) q' (s.data.toList.drop (p+1))=G):=(by show _=_;rw[<- HGO.out,HD.out,goF,hX])
    clear hX
    have hkk:k=0∨k=1∨k=2∨k=3∨k=4∨k=5∨k=6:=by omega
    rcases hkk with rfl|rfl|rfl|rfl|rfl|rfl|rfl
    ·rw[show decide ((0:Nat)=2∨(0:Nat)=4)=false from by decide] at K46
     have HSF:Hid (firstF q s[p] (s.data.toList.drop (p+1))=Rs.ok q'):=(by show _=_;have:=HX.out;simpa [stepF,HK.out] using this)
     clear HX HD HGO
     by_cases h10:s[p]=10
     ·have e10:((s[p].toNat:Nat):Int)=10:=bz s[p] 10 h10
      clear h10 n10
      have KS:=Lib.hid (first47 B R (w0.put w.heap.size 0 0) wr s q start wv ev wS p HRS.out hpl (by omega) (by have:=HNB.out.ln;omega) (by have:=HNB.out.op;omega) (by have:=HNB.out.es;omega))
      rw[HSF.out] at KS
      clear HCU HNB HSF HRS
      go_wp2_with fail
      refine (K46.out _).mono ?_
      rintro e w9 ⟨rfl,rfl⟩
      go_wp2_with fail
      refine KS.out.mono ?_
      rintro e w2 ⟨k2,er,rfl,H2⟩
      obtain ⟨rfl,rfl,st2,wv2,ev2,wS2,r2,cu2⟩:=H2.out
      have HR2:=Lib.hid r2
      have HC2:=Lib.hid cu2
      clear H2 r2 cu2
      go_wp2_with fail
      go_roundw
      case rel=>exact ⟨p+1,q'.st,q',st2,wv2,ev2,wS2,rfl,rfl,by go_num,by omega,HNB2.out.st,rfl,HR2,HGX,HC2,HNB2⟩
      case measure=>simp[intOf];omega
     ·have m10:=n10 h10
      clear n10
      have KS:=Lib.hid (first47 B R (w0.put w.heap.size 0 0) wr s q start wv ev wS p HRS.out hpl (by omega) (by have:=HNB.out.ln;omega) (by have:=HNB.out.op;omega) (by have:=HNB.out.es;omega))
      rw[HSF.out] at KS
      clear HCU HNB HSF HRS
      go_wp2_with fail
      refine KS.out.mono ?_
      rintro e w2 ⟨k2,er,rfl,H2⟩
      obtain ⟨rfl,rfl,st2,wv2,ev2,wS2,r2,cu2⟩:=H2.out
      have HR2:=Lib.hid r2
      have HC2:=Lib.hid cu2
      clear H2 r2 cu2
      go_wp2_with fail
      go_roundw
      case rel=>exact ⟨p+1,q'.st,q',st2,wv2,ev2,wS2,rfl,rfl,by go_num,by omega,HNB2.out.st,rfl,HR2,HGX,HC2,HNB2⟩
      case measure=>simp[intOf];omega
    ·rw[show decide ((1:Nat)=2∨(1:Nat)=4)=false from by decide] at K46
     have HSF:Hid (nextF q s[p] (s.data.toList.drop (p+1))=Rs.ok q'):=(by show _=_;have:=HX.out;simpa [stepF,HK.out] using this)
     clear HX HD HGO
     by_cases h10:s[p]=10
     ·have e10:((s[p].toNat:Nat):Int)=10:=bz s[p] 10 h10
      clear h10 n10
      have KS:=Lib.hid (next48 B R (w0.put w.heap.size 0 0) wr s q start wv ev wS p HRS.out (HCU.out (.inl HK.out)) hpl (by omega) (by have:=HNB.out.ln;omega) (by have:=HNB.out.op;omega) (by have:=HNB.out.es;omega) HNB.out.ws)
      rw[HSF.out] at KS
      clear HCU HNB HSF HRS
      go_wp2_with fail
      refine (K46.out _).mono ?_
      rintro e w9 ⟨rfl,rfl⟩
      go_wp2_with fail
      refine KS.out.mono ?_
      rintro e w2 ⟨k2,er,rfl,H2⟩
      obtain ⟨rfl,rfl,st2,wv2,ev2,wS2,r2,cu2⟩:=H2.out
      have HR2:=Lib.hid r2
      have HC2:=Lib.hid cu2
      clear H2 r2 cu2
      go_wp2_with fail
      go_roundw
      case rel=>exact ⟨p+1,q'.st,q',st2,wv2,ev2,wS2,rfl,rfl,by go_num,by omega,HNB2.out.st,rfl,HR2,HGX,HC2,HNB2⟩
      case measure=>simp[intOf];omega
     ·have m10:=n10 h10
      clear n10
      have KS:=Lib.hid (next48 B R (w0.put w.heap.size 0 0) wr s q start wv ev wS p HRS.out (HCU.out (.inl HK.out)) hpl (by omega) (by have:=HNB.out.ln;omega) (by have:=HNB.out.op;omega) (by have:=HNB.out.es;omega) HNB.out.ws)
      rw[HSF.out] at KS
      clear HCU HNB HSF HRS
      go_wp2_with fail
      refine KS.out.mono ?_
      rintro e w2 ⟨k2,er,rfl,H2⟩
      obtain ⟨rfl,rfl,st2,wv2,ev2,wS2,r2,cu2⟩:=H2.out
      have HR2:=Lib.hid r2
      have HC2:=Lib.hid cu2
      clear H2 r2 cu2
      go_wp2_with fail
      go_roundw
      case rel=>exact ⟨p+1,q'.st,q',st2,wv2,ev2,wS2,rfl,rfl,by go_num,by omega,HNB2.out.st,rfl,HR2,HGX,HC2,HNB2⟩
      case measure=>simp[intOf];omega
    ·rw[show decide ((2:Nat)=2∨(2:Nat)=4)=true from by decide] at K46
     by_cases h10:s[p]=10
     ·exfalso
      have:=HX.out
      simp[stepF,HK.out,h10] at this
     ·have m10:=n10 h10
      have hq:q'={ q with st:=1,cur:=q.cur++[s[p]] }:=by
       have:=HX.out
       simp[stepF,HK.out,h10] at this
       exact this.symm
      subst hq
      have HR2:=Lib.hid (HRS.out.setQ 1 (q.cur++[s[p]]))
      have HC2:Hid (Cu s { q with st:=1,cur:=q.cur++[s[p]] } start (p+1)):=fun _=>(HCU.out (.inr (.inl HK.out))).push hpl 1
      clear h10 n10 HX HD HGO HCU HNB HRS
      go_wp2_with fail
      go_roundw
      case rel=>exact ⟨p+1,1,{ q with st:=1,cur:=q.cur++[s[p]] },start,wv,ev,wS,rfl,rfl,by go_num,by omega,HNB2.out.st,rfl,HR2,HGX,HC2,HNB2⟩
      case measure=>simp[intOf];omega
    ·rw[show decide ((3:Nat)=2∨(3:Nat)=4)=false from by decide] at K46
     by_cases h10:s[p]=10
     ·exfalso
      have:=HX.out
      simp[stepF,HK.out,h10] at this
     ·have m10:=n10 h10
      have HSF:Hid (quotF q s[p]=Rs.ok q'):=(by show _=_;have:=HX.out;simpa [stepF,HK.out,h10] using this)
      clear HX HD HGO
      clear n10 h10
      have KS:=Lib.hid (quot49 B R (w0.put w.heap.size 0 0) wr s q start wv ev wS p HRS.out (HCU.out (.inr (.inr (.inl HK.out)))) hpl (by omega) HNB.out.ws)
      rw[HSF.out] at KS
      clear HCU HNB HSF HRS
      go_wp2_with fail
      refine KS.out.mono ?_
      rintro e w2 ⟨k2,er,rfl,H2⟩
      obtain ⟨rfl,rfl,st2,wv2,ev2,wS2,r2,cu2⟩:=H2.out
      have HR2:=Lib.hid r2
      have HC2:=Lib.hid cu2
      clear H2 r2 cu2
      go_wp2_with fail
      go_roundw
      case rel=>exact ⟨p+1,q'.st,q',st2,wv2,ev2,wS2,rfl,rfl,by go_num,by omega,HNB2.out.st,rfl,HR2,HGX,HC2,HNB2⟩
      case measure=>simp[intOf];omega
    ·rw[show decide ((4:Nat)=2∨(4:Nat)=4)=true from by decide] at K46
     by_cases h10:s[p]=10
     ·exfalso
      have:=HX.out
      simp[stepF,HK.out,h10] at this
     ·have m10:=n10 h10
      have hq:q'={ q with st:=3,cur:=q.cur++[s[p]] }:=by
       have:=HX.out
       simp[stepF,HK.out,h10] at this
       exact this.symm
      subst hq
      have HR2:=Lib.hid (HRS.out.setQ 3 (q.cur++[s[p]]))
      have HC2:Hid (Cu s { q with st:=3,cur:=q.cur++[s[p]] } start (p+1)):=fun _=>(HCU.out (.inr (.inr (.inr HK.out)))).push hpl 3
      clear h10 n10 HX HD HGO HCU HNB HRS
      go_wp2_with fail
      go_roundw
      case rel=>exact ⟨p+1,3,{ q with st:=3,cur:=q.cur++[s[p]] },start,wv,ev,wS,rfl,rfl,by go_num,by omega,HNB2.out.st,rfl,HR2,HGX,HC2,HNB2⟩
      case measure=>simp[intOf];omega
    ·rw[show decide ((5:Nat)=2∨(5:Nat)=4)=false from by decide] at K46
     by_cases h10:s[p]=10
     ·cases hen:endsW s[p] with
      |true=>
       have K50:=Lib.hid (fun w=>ends50 ((s[p].toNat:Nat):Int) w)
       have HZ:Hid (endsz ((s[p].toNat:Nat):Int)=endsW s[p]):=endsz_bI s[p]
       rw[HZ.out,hen] at K50
       have HSF:Hid (outR q s[p] (s.data.toList.drop (p+1))=Rs.ok q'):=(by show _=_;have:=HX.out;simpa [stepF,HK.out,hen] using this)
       have KS:=Lib.hid (outside51 B R (w0.put w.heap.size 0 0) wr s q start wv ev wS p HRS.out hpl (by omega) (by have:=HNB.out.ln;omega) (by have:=HNB.out.op;omega) (by have:=HNB.out.es;omega))
       rw[HSF.out] at KS
       have e10:((s[p].toNat:Nat):Int)=10:=bz s[p] 10 h10
       simp only[e10] at K50
       clear HX HD HGO HSF HCU HNB HRS h10 n10 HZ hen
       go_wp2_with fail
       refine (K46.out _).mono ?_
       rintro e w9 ⟨rfl,rfl⟩
       go_wp2_with fail
       refine (K50.out _).mono ?_
       rintro e w8 ⟨rfl,rfl⟩
       go_wp2_with fail
       refine KS.out.mono ?_
       rintro e w2 ⟨k2,er,rfl,H2⟩
       obtain ⟨rfl,rfl,st2,wv2,ev2,wS2,r2,cu2⟩:=H2.out
       have HR2:=Lib.hid r2
       have HC2:=Lib.hid cu2
       clear H2 r2 cu2
       go_wp2_with fail
       go_roundw
       case rel=>exact ⟨p+1,q'.st,q',st2,wv2,ev2,wS2,rfl,rfl,by go_num,by omega,HNB2.out.st,rfl,HR2,HGX,HC2,HNB2⟩
       case measure=>simp[intOf];omega
      |false=>
       have K50:=Lib.hid (fun w=>ends50 ((s[p].toNat:Nat):Int) w)
       have HZ:Hid (endsz ((s[p].toNat:Nat):Int)=endsW s[p]):=endsz_bI s[p]
       rw[HZ.out,hen] at K50
       exfalso
       have:=HX.out
       simp[stepF,HK.out,hen] at this
     ·cases hen:endsW s[p] with
      |true=>
       have K50:=Lib.hid (fun w=>ends50 ((s[p].toNat:Nat):Int) w)
       have HZ:Hid (endsz ((s[p].toNat:Nat):Int)=endsW s[p]):=endsz_bI s[p]
       rw[HZ.out,hen] at K50
       have HSF:Hid (outR q s[p] (s.data.toList.drop (p+1))=Rs.ok q'):=(by show _=_;have:=HX.out;simpa [stepF,HK.out,hen] using this)
       have KS:=Lib.hid (outside51 B R (w0.put w.heap.size 0 0) wr s q start wv ev wS p HRS.out hpl (by omega) (by have:=HNB.out.ln;omega) (by have:=HNB.out.op;omega) (by have:=HNB.out.es;omega))
       rw[HSF.out] at KS
       have m10:=n10 h10
       clear HX HD HGO HSF HCU HNB HRS h10 n10 HZ hen
       go_wp2_with fail
       refine (K50.out _).mono ?_
       rintro e w8 ⟨rfl,rfl⟩
       go_wp2_with fail
       refine KS.out.mono ?_
       rintro e w2 ⟨k2,er,rfl,H2⟩
       obtain ⟨rfl,rfl,st2,wv2,ev2,wS2,r2,cu2⟩:=H2.out
       have HR2:=Lib.hid r2
       have HC2:=Lib.hid cu2
       clear H2 r2 cu2
       go_wp2_with fail
       go_roundw
       case rel=>exact ⟨p+1,q'.st,q',st2,wv2,ev2,wS2,rfl,rfl,by go_num,by omega,HNB2.out.st,rfl,HR2,HGX,HC2,HNB2⟩
       case measure=>simp[intOf];omega
      |false=>
       have K50:=Lib.hid (fun w=>ends50 ((s[p].toNat:Nat):Int) w)
       have HZ:Hid (endsz ((s[p].toNat:Nat):Int)=endsW s[p]):=endsz_bI s[p]
       rw[HZ.out,hen] at K50
       exfalso
       have:=HX.out
       simp[stepF,HK.out,hen] at this
    ·rw[show decide ((6:Nat)=2∨(6:Nat)=4)=false from by decide] at K46
     by_cases h10:s[p]=10
     ·have e10:((s[p].toNat:Nat):Int)=10:=bz s[p] 10 h10
      have HSF:Hid (outR q s[p] (s.data.toList.drop (p+1))=Rs.ok q'):=(by show _=_;have:=HX.out;simpa [stepF,HK.out,h10] using this)
      have KS:=Lib.hid (outside51 B R (w0.put w.heap.size 0 0) wr s q start wv ev wS p HRS.out hpl (by omega) (by have:=HNB.out.ln;omega) (by have:=HNB.out.op;omega) (by have:=HNB.out.es;omega))
      rw[HSF.out] at KS
      clear HX HD HGO HSF HCU HNB HRS h10 n10
      go_wp2_with fail
      refine (K46.out _).mono ?_
      rintro e w9 ⟨rfl,rfl⟩
      go_wp2_with fail
      refine KS.out.mono ?_
      rintro e w2 ⟨k2,er,rfl,H2⟩
      obtain ⟨rfl,rfl,st2,wv2,ev2,wS2,r2,cu2⟩:=H2.out
      have HR2:=Lib.hid r2
      have HC2:=Lib.hid cu2
      clear H2 r2 cu2
      go_wp2_with fail
      go_roundw
      case rel=>exact ⟨p+1,q'.st,q',st2,wv2,ev2,wS2,rfl,rfl,by go_num,by omega,HNB2.out.st,rfl,HR2,HGX,HC2,HNB2⟩
      case measure=>simp[intOf];omega
     ·have m10:=n10 h10
      have hq:q'=q:=by
       have:=HX.out
       simp[stepF,HK.out,h10] at this
       exact this.symm
      subst hq
      have HC2:Hid (Cu s q' start (p+1)):=fun e=>by have:=HK.out;omega
      clear h10 n10 HX HD HGO HCU HNB
      go_wp2_with fail
      go_roundw
      case rel=>exact ⟨p+1,6,_,start,wv,ev,wS,rfl,rfl,by go_num,by omega,by omega,HK,HRS,HGX,HC2,HNB2⟩
      case measure=>simp[intOf];omega
def EnQ(B:Nat)(w0:World)(v:Value)(a b:Nat)(w':World):Rt->Prop
 | .er e l=>v=.slice none 0 0/\a=e/\b=l/\Below B w0 w'
 | .ok es=>a=0/\b=0/\OwE B w' v es/\Below B w0 w'
def EnP(w0:World)(r:Rt)(e:Ending)(w':World):Prop:=
 ∃v,∃a b:Nat,e=.returned (.tuple #[v,.agg #[.int .i64 a,.int .i64 b]])/\Hid (EnQ w0.heap.size w0 v a b w' r)
theorem entries12_long(s:ByteArray)(w:World)(hs:65536<s.size):Calls Tryz.prog 18 #[.string s] w (EnP w (entsF s.data.toList)):=by
 have hs':(65536:Int)<(s.size:Int):=by omega
 have hl:s.data.toList.length=s.size:=by simp
 have HX:Hid (entsF s.data.toList=.er 3 0):=(by show _=_;simp only[entsF,hl,if_pos hs])
 rw[HX.out]
 clear HX hl
 go_enter Tryz.func18,Tryz.ntmps18
 go_wp2_with fail
 refine bodyPost_ret (v:=.tuple #[.slice none 0 0,.agg #[.int .i64 3,.int .i64 0]]) ?_ rfl ⟨_,3,0,rfl,rfl,rfl,rfl,(Below.refl _ _).alloc (Nat.le_refl _) _⟩
 simp[results,Tryz.results18,go_sem]
def qz:Cf:=⟨0,1,0,[],0,false,[],[]⟩
theorem rc_new(w:World)(s:ByteArray):RC w.heap.size (w.heap.size+1) ⟨w,[(w.heap.size,0,0)]⟩ ((w.alloc (.cells #[.int .i64 0,.int .i64 0] 28)).alloc (.cells #[.string s,.int .i64 1,.int .i64 0,.int .i64 0,.int .i64 0,.bool false,.slice none 0 0,.slice none 0 0] 87)) s qz 0 (.slice none 0 0) (.slice none 0 0):=by
 have h1:=heap_alloc_new (w.alloc (.cells #[.int .i64 0,.int .i64 0] 28)) (.cells #[.string s,.int .i64 1,.int .i64 0,.int .i64 0,.int .i64 0,.bool false,.slice none 0 0,.slice none 0 0] 87)
 refine ⟨?_,OwE.nil _ _,by omega,?_,?_⟩
 ·simpa [Bx,qz] using h1
 ·exact ((Below.refl _ _).alloc (Nat.le_refl _) _).alloc (by simp) _
 ·intro j hj
  simp only[List.mem_singleton] at hj
  subst hj
  rw[(al_below (w.alloc (.cells #[.int .i64 0,.int .i64 0] 28)) _).block w.heap.size (by simp)]
  exact heap_alloc_new w _
theorem entries12_go(s:ByteArray)(w:World)(hs:s.size<=65536):Calls Tryz.prog 18 #[.string s] w (EnP w (entsF s.data.toList)):=by
 have hs':¬ (65536:Int)<(s.size:Int):=by omega
 have hl:s.data.toList.length=s.size:=by simp
 have HX:Hid (entsF s.data.toList=goF (linesF s.data.toList) (q0 s.data.toList) s.data.toList):=(by show _=_;simp only[entsF,hl];rw[if_neg (by omega)])
 rw[HX.out]
 have KB:=Lib.hid (begin28 w.heap.size (w.heap.size+1) ⟨w,[(w.heap.size,0,0)]⟩ _ s qz 0 _ _ 0 (rc_new w s) (by omega))
 have KR:Hid (∀W wv ev wS,RSZ w.heap.size (w.heap.size+1) ⟨w,[(w.heap.size,0,0)]⟩ W s (q0 s.data.toList) 0 wv ev wS->Calls Tryz.prog 34 #[.pointer (some ⟨w.heap.size+1,0,none⟩)] W (FnP w.heap.size (w.heap.size+1) ⟨w,[(w.heap.size,0,0)]⟩ s (goF (linesF s.data.toList) (q0 s.data.toList) s.data.toList))):=fun W wv ev wS hW=>run29 _ _ _ W s _ 0 wv ev wS hW (fun p hp=>by simp only[List.mem_singleton] at hp;subst hp;have:=hW.bx.lt;simp only;omega) (by omega) rfl ⟨by simp[q0],by simp[q0],by simp[q0],by simp[q0],by simp[q0]⟩
 have HE:Hid (∀e l,goF (linesF s.data.toList) (q0 s.data.toList) s.data.toList=.er e l->e=230∨e=3):=fun e l h=>(ents_er (by rw[hl];exact hs) (HX.out.trans h)).1
 generalize goF (linesF s.data.toList) (q0 s.data.toList) s.data.toList=G at*
 clear HX hl
 go_enter Tryz.func18,Tryz.ntmps18
 go_wp2_with fail
 refine KB.out.mono ?_
 rintro e w1 ⟨rfl,H1⟩
 obtain ⟨wS,hrs⟩:=H1.out
 have HRS:Hid (RSZ w.heap.size (w.heap.size+1) ⟨w,[(w.heap.size,0,0)]⟩ w1 s (q0 s.data.toList) 0 (.slice none 0 0) (.slice none 0 0) wS):=(by show _;rw[List.drop_zero] at hrs;exact hrs)
 clear H1 hrs KB
 go_wp2_with fail
 refine (KR.out _ _ _ _ HRS.out).mono ?_
 rintro e w2 ⟨a,b,rfl,H2⟩
 cases G with
 |er e l=>
  obtain ⟨rfl,rfl,hfr⟩:=H2.out
  have HF:=Lib.hid hfr
  have hJ:=hfr.2 (w.heap.size,0,0) (by simp)
  have hJ2:(w2.alloc (.cells #[.int .i64 a,.int .i64 b] 28)).heap[w.heap.size]?=some (.cells #[.int .i64 0,.int .i64 0] 28 (0,0)):=((al_below w2 _).block w.heap.size (rc_lt hJ)).trans hJ
  have n0:¬ (a:Int)=0:=by have:=HE.out a b rfl;omega
  have n1:((a:Int) == 0)=false:=by simpa using n0
  have k0:=rc_c0 hJ2
  have k1:=rc_c1 hJ2
  have kf:=rc_fz hJ2
  have kl:=rc_lt hJ2
  have z0:=rc_c0 (rc_put hJ2 (.int .i64 a) (.int .i64 b))
  have z1:=rc_c1 (rc_put hJ2 (.int .i64 a) (.int .i64 b))
  have HFI:Hid (Below w.heap.size w (((w2.alloc (.cells #[.int .i64 a,.int .i64 b] 28)).setCell ⟨w.heap.size,0,none⟩ (.int .i64 a)).setCell ⟨w.heap.size,1,none⟩ (.int .i64 b)).drew):=((((HF.out.1.alloc HF.out.1.size _)).setCell (p:=⟨w.heap.size,0,none⟩) (Nat.le_refl _) _).setCell (p:=⟨w.heap.size,1,none⟩) (Nat.le_refl _) _).drew
  clear H2 hfr hJ hJ2
  go_wp2_with fail
  go_region_law (fail)
  all_goals
   go_wp2_with fail
   refine bodyPost_ret (v:=.tuple #[.slice none 0 0,.agg #[.int .i64 a,.int .i64 b]]) ?_ rfl ⟨_,a,b,rfl,rfl,rfl,rfl,HFI.out⟩
   simp[results,Tryz.results18,go_sem,z0,z1,k0,k1,kl]
 |ok es=>
  obtain ⟨rfl,rfl,q,st,wv,ev,hq,hrc⟩:=H2.out
  have hJ:=hrc.bl.2 (w.heap.size,0,0) (by simp)
  have hJ2:(w2.alloc (.cells #[.int .i64 0,.int .i64 0] 28)).heap[w.heap.size]?=some (.cells #[.int .i64 0,.int .i64 0] 28 (0,0)):=((al_below w2 _).block w.heap.size (rc_lt hJ)).trans hJ
  have r7:(w2.alloc (.cells #[.int .i64 0,.int .i64 0] 28)).cell? ⟨w.heap.size+1,7,none⟩=some ev:=((al_below w2 _).cell (p:=⟨w.heap.size+1,7,none⟩) hrc.bx.lt).trans hrc.bx.c7
  have k0:=rc_c0 hJ2
  have k1:=rc_c1 hJ2
  have kf:=rc_fz hJ2
  have kl:=rc_lt hJ2
  have z0:=rc_c0 (rc_put hJ2 (.int .i64 0) (.int .i64 0))
  have z1:=rc_c1 (rc_put hJ2 (.int .i64 0) (.int .i64 0))
  have HOW:Hid (OwE w.heap.size (((w2.alloc (.cells #[.int .i64 0,.int .i64 0] 28)).setCell ⟨w.heap.size,0,none⟩ (.int .i64 0)).setCell ⟨w.heap.size,1,none⟩ (.int .i64 0)) ev es):=(by
   show OwE _ _ _ _
   have h1:OwE w.heap.size (w2.alloc (.cells #[.int .i64 0,.int .i64 0] 28)) ev es:=by rw[<- hq];exact hrc.ow.stays (al_below w2 _)
   refine h1.go (by simp) (fun k _ hk=>?_)
   have hne:k≠w.heap.size:=fun e=>by
    obtain ⟨c,t,a1,a2⟩:=hk
    rw[e,hJ2] at a1;cases a1;simp at a2
   rw[Below.heap_setCell _ _ _ _ hne,Below.heap_setCell _ _ _ _ hne])
  have HFI:Hid (Below w.heap.size w (((w2.alloc (.cells #[.int .i64 0,.int .i64 0] 28)).setCell ⟨w.heap.size,0,none⟩ (.int .i64 0)).setCell ⟨w.heap.size,1,none⟩ (.int .i64 0))):=((hrc.bl.1.alloc hrc.bl.1.size _).setCell (p:=⟨w.heap.size,0,none⟩) (Nat.le_refl _) _).setCell (p:=⟨w.heap.size,1,none⟩) (Nat.le_refl _) _
  clear H2 hrc hJ hJ2 hq
  go_wp2_with fail
  refine bodyPost_ret (v:=.tuple #[ev,.agg #[.int .i64 0,.int .i64 0]]) ?_ rfl ⟨_,0,0,rfl,rfl,rfl,HOW.out,HFI.out⟩
  simp[results,Tryz.results18,go_sem,z0,z1,k0,k1,kl]
theorem entries12(s:ByteArray)(w:World):Calls Tryz.prog 18 #[.string s] w (EnP w (entsF s.data.toList)):=by
 by_cases h:s.size<=65536
 ·exact entries12_go s w h
 ·exact entries12_long s w (by omega)
def dgsD(l:List Int):List Int:=l.takeWhile xdig
def aftD(l:List Int):List Int:=l.dropWhile xdig
def num31(l:List Int):Option Nat:=xnum l 2147483648
def lets:List Int:=[119,100,104,109,115]
def lens:List Nat:=[604800,86400,3600,60,1]
def plF(c:Int):List Int->Option Nat
 |[]=>none
 |a::r=>if a=c then some 0 else (plF c r).map (·+1)
def sumF:Nat->List Int->Nat->Nat->Option (Nat × Nat)
 |k,[],frm,all=>some (frm,all)
 |0,_::_,_,_=>none
 |k+1,a::s,frm,all=>
  (num31 (dgsD (a::s))).bind fun n=>match aftD (a::s) with
   |[]=>none
   |c::t=>(plF c (lets.drop frm)).bind fun p=>sumF k t (frm+p+1) (all+n*lens.getD (frm+p) 0)
def ttlF(s:ByteArray):Option Nat:=
 match num31 (nums s) with
 |some n=>some n
 |none=>(sumF 6 (nums (foldL s)) 0 0).bind fun p=>if 0<p.1/\p.2<2147483648 then some p.2 else none
structure Cy where
 og:List ByteArray
 ow:List ByteArray
 cl:Nat
 df:Nat
 tt:Nat
 ho:Bool
 hc:Bool
 ht:Bool
 sd:Bool
structure Rec where
 ow:List ByteArray
 t:Nat
 cl:Nat
 tt:Nat
 d:Dat
def opnF(e:En):ByteArray:=if e.blank then ⟨#[]⟩ else match e.ws with
 |(s,false)::_=>s
 |_=>⟨#[]⟩
def cOrigin:ByteArray:=⟨#[36,111,114,105,103,105,110]⟩
def cTTL:ByteArray:=⟨#[36,116,116,108]⟩
def cmdF(e:En):Nat:=if foldL (opnF e)=cOrigin then 1 else if foldL (opnF e)=cTTL then 2 else 0
def marked(e:En):Bool:=(nums (opnF e)).head? == some 36
def ownF(e:En)(c:Cy):List ByteArray × List Wd × Int:=
 if e.blank then (if c.ho then (c.ow,e.ws,0) else ([],[],9)) else match e.ws with
  |(s,false)::r=>((nrel s c.og).1,r,(nrel s c.og).2)
  |_=>([],[],240)
def isT(s:ByteArray):Bool:=match nums s with
 |[]=>false
 |c::_=>xdig c
def tyF(s:ByteArray):Option Nat:=readC typesW typesP.data.toList 65536 (up s).data.toList
def clF(s:ByteArray):Option Nat:=readC classesW classesP.data.toList 65536 (up s).data.toList
def isC(s:ByteArray):Bool:=(clF s).isSome && (tyF s).isNone
structure Say where
 k:Nat
 c:Nat
 t:Nat
 hk:Bool
 hc:Bool
 ht:Bool
def say0:Say:=⟨0,0,0,false,false,false⟩
def tkF(y:Say)(w:Wd):Except Int Say:=
 if w.2=true then .error 240
 else if (y.ht && isT w.1)=true then .error 240
 else if (y.hc && isC w.1)=true then .error 240
 else if isT w.1=true then (match ttlF w.1 with|some n=>.ok { y with t:=n,ht:=true }|none=>.error 240)
 else if isC w.1=true then (match clF w.1 with|some n=>.ok { y with c:=n,hc:=true }|none=>.error 6)
 else match tyF w.1 with|some n=>(if storedF n then .ok { y with k:=n,hk:=true } else .error 6)|none=>.error 6
def saysF(y:Say):List Wd->Except Int (Say × List Wd)
 |[]=>.error 240
 |w::r=>match tkF y w with
  | .error e=>.error e
  | .ok y'=>if y'.hk then .ok (y',r) else saysF y' r
def tmF(y:Say)(d:Dat)(c:Cy):Option (Nat × Cy):=
 if y.ht then some (y.t,{ c with tt:=y.t,ht:=true })
 else if c.sd then some (c.df,c)
 else if c.ht then some (c.tt,c)
 else if y.k=6/\d.us.getD 4 0<2147483648 then some (d.us.getD 4 0,{ c with tt:=d.us.getD 4 0,ht:=true })
 else none
def csF(y:Say)(c:Cy):Nat:=if y.hc then y.c else if c.hc then c.cl else 1
def entF(e:En)(c:Cy):Except Int (Rec × Cy):=
 if e.ws=[]∨marked e=true then .error 240
 else if (ownF e c).2.2≠0 then .error (ownF e c).2.2
 else match saysF say0 (ownF e c).2.1 with
  | .error er=>.error er
  | .ok (y,r)=>match prsF y.k c.og r with
   |none=>.error 7
   |some d=>match tmF y d c with
    |none=>.error 9
    |some (n,c')=>.ok (⟨(ownF e c).1,y.k,csF y c',n,d⟩,{ c' with ow:=(ownF e c).1,ho:=true,cl:=csF y c',hc:=true })
def cmdE(k:Nat)(ws:List Wd)(c:Cy):Except Int Cy:=
 match ws with
 |[(s,false)]=>if k=1 then (if (nrel s c.og).2=0 then .ok { c with og:=(nrel s c.og).1 } else .error (nrel s c.og).2)
   else (match ttlF s with|some n=>.ok { c with df:=n,sd:=true }|none=>.error 240)
 |_=>.error 240
def stpE(e:En)(c:Cy)(rs:List Rec):Except Int (Cy × List Rec):=
 if cmdF e=0 then (match entF e c with
  | .error er=>.error er
  | .ok (r,c')=>if rs.length=2048 then .error 3 else .ok (c',rs++[r]))
 else (match cmdE (cmdF e) e.ws.tail c with
  | .error er=>.error er
  | .ok c'=>.ok (c',rs))
inductive Ra where
 |er (e:Int) (line:Int)
 |ok (rs:List Rec)
def allF:List En->Cy->List Rec->Ra
 |[],_,rs=>.ok rs
 |e::es,c,rs=>match stpE e c rs with
  | .error er=>.er er e.line
  | .ok (c',rs')=>allF es c' rs'
def cy0(og:List ByteArray):Cy:=⟨og,[],0,0,0,false,false,false,false⟩
def mstF(s:ByteArray)(og:List ByteArray):Ra:=
 if nck og=0 then (match entsF s.data.toList with
  | .er e l=>.er e l
  | .ok es=>allF es (cy0 og) [])
 else .er (nck og) 0
end Go.Proofs.YtjkljpdolhglcaaGreatDoor
namespace Go.Proofs.YtjkljpdolhglcaaGreatDoor
open Go.ChangeShapes Go.WideShapes Go.ChangeAt Go.RowKit Go.Sort
theorem pu31_in(t:ByteArray)(hne:t.size≠0)(hmax:t.size<=9223372036854775806)(w:World) :
  Calls Tryz.prog 98 #[.string t,.int .i64 10,.int .i64 31] w fun e w'=>e=.returned (Lib.uintTupleM 181 2147483647 (Lib.parseUintM 2147483647 0 t.data.toList))/\w'=Lib.bytesWorld w 5 t:=by
 have hemp:t.toList.isEmpty=false:=by
  rw[<- decide_eq_emptyBytes]
  exact decide_eq_false (fun h=>hne (by rw[h];rfl))
 have hcv:=Lib.run_convert_string_bytes (P:=Tryz.prog) w 9 46 5 t (u:=.string) Tryz.underlying9 Tryz.underlying46 Tryz.underlying5
 have hB:∀j,j<t.size->(Lib.bytesWorld w 5 t).cell? ⟨w.heap.size,j,none⟩=some (.int .u8 (t.data.toList.getD j 0).toNat):=fun j hj=>Lib.bytesWorld_cell w 5 t j hj
 obtain ⟨W1,hW1⟩:∃W1,W1=Lib.bytesWorld w 5 t:=⟨_,rfl⟩
 rw[<- hW1] at hcv hB ⊢
 clear hW1
 obtain ⟨bs,hL⟩:∃bs,bs=t.data.toList:=⟨_,rfl⟩
 have hLn:bs.length=t.size:=by rw[hL,Lib.size_eq]
 rw[<- hL] at hB ⊢
 clear hL
 have hmv:IntKind.u64.wrap (IntKind.u64.wrap 2147483648 - 1)=2147483647:=by
  rw[IntKind.wrap_u64,IntKind.wrap_u64]
  decide
 go_enter Tryz.func98,Tryz.ntmps98
 go_wp2
 go_loop [12,13,101] (fun vu vn vi=>∃(k acc:Nat) (a:Int),vu=.bool false/\vn=.int .u64 a/\vi=.int .i64 k/\k<=t.size/\Hid (a=(acc:Int)/\acc<=2147483647/\Lib.parseUintM 2147483647 0 bs=Lib.parseUintM 2147483647 acc (bs.drop k)))
  (fun _ _ vi=>t.size - (intOf vi).toNat)
 case atStart=>exact ⟨0,0,0,rfl,rfl,rfl,by omega,rfl,by omega,rfl⟩
 case round=>
  obtain ⟨k,acc,a,rfl,rfl,rfl,hk,hh⟩:=hrel
  obtain ⟨ha,hacc,hdec⟩:=hh.out
  clear hh
  have a0:0<=a:=by omega
  have a1:a<=2147483647:=by omega
  by_cases hkn:k<t.size
  ·have hc:=hB k hkn
   have hdrop:bs.drop k=bs[k]'(by omega)::bs.drop (k+1):=List.drop_eq_getElem_cons (by omega)
   have hget:bs.getD k 0=bs[k]'(by omega):=by simp[List.getD,List.getElem?_eq_getElem (show k<bs.length by omega)]
   rw[hdrop] at hdec
   rw[hget] at hc
   generalize bs[k]'(by omega)=c at hc hdec
   have hc256:c.toNat<256:=c.toNat_lt
   clear hB hdrop hget
   generalize hR:bs.drop (k+1)=R at hdec
   by_cases hdig:48<=c.toNat/\c.toNat<=57
   ·obtain ⟨hd0,hd1⟩:=hdig
    have hcut:¬ 1844674407370955162<=acc:=by omega
    by_cases hov:2147483647<acc*10+(c.toNat - 48)
    ·have hF:Lib.parseUintM 2147483647 acc (c::R)=.range:=by simp[Lib.parseUintM,hd0,hd1,hcut,hov]
     rw[hF] at hdec
     have iov:2147483647<a*10+((c.toNat:Int) - 48):=by omega
     clear hcut hacc hF hov ha
     go_wp2
     go_ret2
     exact ⟨rfl,rfl⟩
    ·have hF:Lib.parseUintM 2147483647 acc (c::R)=Lib.parseUintM 2147483647 (acc*10+(c.toNat - 48)) R:=by simp[Lib.parseUintM,hd0,hd1,hcut,hov]
     have HN:Hid (a*10+((c.toNat:Int) - 48)=((acc*10+(c.toNat - 48):Nat):Int)/\acc*10+(c.toNat - 48)<=2147483647/\Lib.parseUintM 2147483647 0 bs=Lib.parseUintM 2147483647 (acc*10+(c.toNat - 48)) (bs.drop (k+1))):=Lib.hid ⟨by omega,by omega,by rw[hR];exact hdec.trans hF⟩
     have iov:a*10+((c.toNat:Int) - 48)<=2147483647:=by omega
     clear hcut hacc hF hov hdec ha
     go_wp2
     refine ⟨⟨k+1,acc*10+(c.toNat - 48),a*10+((c.toNat:Int) - 48),rfl,(by first|rfl|(congr 1;omega)),(by first|rfl|(congr 1;omega)),by omega,HN⟩,by simp[intOf];omega⟩
   ·have hF:Lib.parseUintM 2147483647 acc (c::R)=.syntax:=by simp[Lib.parseUintM,hdig]
    rw[hF] at hdec
    have KL:=Lib.hid (low_any c.toNat hc256)
    have hv256:=(low_all ⟨c.toNat,hc256⟩).2.2.2
    have h95:c.toNat=95->c.toNat ||| 32=127:=by intro h;rw[h];rfl
    simp only at hv256
    clear hacc hF ha
    generalize c.toNat ||| 32=v at*
    by_cases h97:97<=v/\v<=122
    ·have hn95:¬ (c.toNat:Int)=95:=by intro h;have:=h95 (by omega);omega
     have i97:(97:Int)<=(v:Int):=by omega
     have i122:(v:Int)<=122:=by omega
     clear h95
     rcases (by omega:(c.toNat:Int)<48∨57<(c.toNat:Int)) with hq|hq
     all_goals
      go_wp2_with (go_at_call 116;refine (KL.out _).mono ?_;rintro e w' ⟨rfl,hw⟩;subst w')
      go_ret2
      first|exact ⟨rfl,rfl⟩|exact ⟨by rw[hdec];rfl,rfl⟩
    ·by_cases h97':97<=v
     ·have i97:(97:Int)<=(v:Int):=by omega
      have i122:122<(v:Int):=by omega
      clear h95
      rcases (by omega:(c.toNat:Int)<48∨(57<(c.toNat:Int)/\(c.toNat:Int)<95)∨95<(c.toNat:Int)∨c.toNat=95) with hq|⟨hq,hq2⟩|hq|hq
      case inr.inr.inr=>
       have hq:(c.toNat:Int)=95:=by omega
       rw[hq] at hc KL
       go_wp2_with (go_at_call 116;refine (KL.out _).mono ?_;rintro e w' ⟨rfl,hw⟩;subst w')
       go_ret2
       first|exact ⟨rfl,rfl⟩|exact ⟨by rw[hdec];rfl,rfl⟩
      all_goals
       go_wp2_with (go_at_call 116;refine (KL.out _).mono ?_;rintro e w' ⟨rfl,hw⟩;subst w')
       go_ret2
       first|exact ⟨rfl,rfl⟩|exact ⟨by rw[hdec];rfl,rfl⟩
     ·have hn95:¬ (c.toNat:Int)=95:=by intro h;have:=h95 (by omega);omega
      have i97:(v:Int)<97:=by omega
      clear h95
      rcases (by omega:(c.toNat:Int)<48∨57<(c.toNat:Int)) with hq|hq
      all_goals
       go_wp2_with (go_at_call 116;refine (KL.out _).mono ?_;rintro e w' ⟨rfl,hw⟩;subst w')
       go_ret2
       first|exact ⟨rfl,rfl⟩|exact ⟨by rw[hdec];rfl,rfl⟩
  ·have hkk:k=t.size:=by omega
   subst hkk
   have hF:Lib.parseUintM 2147483647 acc (bs.drop t.size)=.ok acc:=by rw[List.drop_eq_nil_of_le (by omega)];rfl
   rw[hF] at hdec
   subst ha
   clear hacc hF a0 a1
   go_wp2
   go_ret2
   first|exact ⟨rfl,rfl⟩|exact ⟨by rw[hdec];rfl,rfl⟩
theorem pu31_empty(w:World):Calls Tryz.prog 98 #[.string ⟨#[]⟩,.int .i64 10,.int .i64 31] w fun e w'=>e=.returned (.tuple #[.int .u64 0,.iface 181 (.int .i64 2)])/\w'=w:=by
 go_enter Tryz.func98,Tryz.ntmps98
 go_wp2
 go_ret2
 exact ⟨rfl,rfl⟩
end Go.Proofs.YtjkljpdolhglcaaGreatDoor
