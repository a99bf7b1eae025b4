/- Texts laid together, in parts: Zca Zcb Zcc Zd Zf Zg Zh Zi Zj Zk Zl Zm. -/
import Derived.Test.YtjkljpdolhglcaaGreatDoorWjg
import Derived.WalkKit
import Derived.Laws.AppendOwn
import Derived.Laws.OwnMore
import Derived.Deep.AppendLies
import Derived.Deep.CutBlock
import Derived.WalkMore
set_option maxRecDepth 100000
set_option maxHeartbeats 8000000
set_option linter.unusedVariables false
set_option linter.unusedSimpArgs false
namespace Go.Proofs.YtjkljpdolhglcaaGreatDoor
abbrev WdZ:=ByteArray × Bool
structure En where
 line:Int
 blank:Bool
 ws:List WdZ
def isB(c:UInt8):Bool:=c == 32 || c == 9 || c == 13
def endsW(c:UInt8):Bool:=isB c || c == 10 || c == 59 || c == 40 || c == 41
structure Cf where
 st:Nat
 line:Nat
 op:Nat
 cur:List UInt8
 el:Int
 bl:Bool
 ws:List WdZ
 es:List En
def addW(q:Cf)(w:WdZ):Cf:={ q with cur:=w.1.data.toList,el:=if q.ws.isEmpty then q.line else q.el,ws:=q.ws++[w] }
def keepF(q:Cf)(b:Bool):Option Cf:=if q.ws.length=64 then none else some (addW q (⟨q.cur.toArray⟩,b))
def closeF(q:Cf):Cf:={ q with es:=if q.ws.isEmpty then q.es else q.es++[⟨q.el,q.bl,q.ws⟩] }
def headB(r:List UInt8):Bool:=match r with|[]=>false|c::_=>isB c
def beginF(q:Cf)(r:List UInt8):Cf:={ q with el:=0,bl:=headB r,ws:=[] }
def outF(q:Cf)(c:UInt8)(r:List UInt8):Option Cf:=
 if c=59 then some { q with st:=6 }
 else if c=40 then some { q with st:=0,op:=q.op+1 }
 else if c=41 then (if q.op=0 then none else some { q with st:=0,op:=q.op - 1 })
 else if c=10 then (if q.op=0 then some (beginF (closeF { q with st:=0,line:=q.line+1 }) r) else some { q with st:=0,line:=q.line+1 })
 else some { q with st:=0 }
inductive Rs where
 |er (e:Nat)
 |ok (q:Cf)
def outR(q:Cf)(c:UInt8)(r:List UInt8):Rs:=match outF q c r with|none=>.er 230|some q'=>.ok q'
def firstF(q:Cf)(c:UInt8)(r:List UInt8):Rs:=
 if endsW c then outR q c r
 else if c=34 then .ok { q with st:=3,cur:=[] }
 else if c=92 then .ok { q with st:=2,cur:=[c] }
 else .ok { q with st:=1,cur:=[c] }
def nextF(q:Cf)(c:UInt8)(r:List UInt8):Rs:=
 if endsW c then (match keepF q false with|none=>.er 3|some q'=>outR q' c r)
 else if c=34 then .er 230
 else if c=92 then .ok { q with st:=2,cur:=q.cur++[c] }
 else .ok { q with st:=1,cur:=q.cur++[c] }
def quotF(q:Cf)(c:UInt8):Rs:=
 if c=34 then (match keepF q true with|none=>.er 3|some q'=>.ok { q' with st:=5 })
 else if c=92 then .ok { q with st:=4,cur:=q.cur++[c] }
 else .ok { q with st:=3,cur:=q.cur++[c] }
def stepF(q:Cf)(c:UInt8)(r:List UInt8):Rs:=
 if c=10/\(q.st=3∨q.st=2∨q.st=4) then .er 230
 else if q.st=0 then firstF q c r
 else if q.st=1 then nextF q c r
 else if q.st=2 then .ok { q with st:=1,cur:=q.cur++[c] }
 else if q.st=3 then quotF q c
 else if q.st=4 then .ok { q with st:=3,cur:=q.cur++[c] }
 else if q.st=5 then (if endsW c then outR q c r else .er 230)
 else (if c=10 then outR q c r else .ok q)
inductive Rt where
 |er (e:Nat) (line:Nat)
 |ok (es:List En)
def finF(L:Nat)(q:Cf):Rt:=
 if q.st=3∨q.st=2∨q.st=4 then .er 230 L
 else if q.st=1 then (match keepF q false with|none=>.er 3 q.line|some q'=>if 0<q'.op then .er 230 L else .ok (closeF q').es)
 else if 0<q.op then .er 230 L else .ok (closeF q).es
def goF(L:Nat):Cf->List UInt8->Rt
 |q,[]=>finF L q
 |q,c::r=>match stepF q c r with | .er e=>.er e q.line | .ok q'=>goF L q' r
def cnt10:List UInt8->Nat
 |[]=>0
 |c::r=>(if c=10 then 1 else 0)+cnt10 r
def linesF(s:List UInt8):Nat:=cnt10 s+(if s.getLast?=none∨s.getLast?=some 10 then 0 else 1)
def q0(s:List UInt8):Cf:=⟨0,1,0,[],0,headB s,[],[]⟩
def entsF(s:List UInt8):Rt:=if 65536<s.length then .er 3 0 else goF (linesF s) (q0 s) s
def wtxt(w:WdZ):List UInt8:=if w.2 then 34::(w.1.data.toList++[34]) else w.1.data.toList
def bwS:Bool->List UInt8->Bool
 |e,[]=>!e
 |true,c::r=>c != 10 && bwS false r
 |false,c::r=>if c=92 then bwS true r else !endsW c && c != 34 && bwS false r
def qwS:Bool->List UInt8->Bool
 |e,[]=>!e
 |true,c::r=>c != 10 && qwS false r
 |false,c::r=>if c=92 then qwS true r else c != 10 && c != 34 && qwS false r
def goodW(w:WdZ):Bool:=if w.2 then qwS false w.1.data.toList else !w.1.data.toList.isEmpty && bwS false w.1.data.toList
theorem ends_not{c:UInt8}(h:endsW c=false):c≠10/\c≠59/\c≠40/\c≠41/\isB c=false:=by
 simp[endsW] at h;exact ⟨h.1.1.1.2,h.1.1.2,h.1.2,h.2,h.1.1.1.1⟩
theorem ba_listZ(b:ByteArray):(⟨b.data.toList.toArray⟩:ByteArray)=b:=by cases b;simp
theorem go_bare(L:Nat)(t:List UInt8):∀(e:Bool) (q:Cf) (r:List UInt8),q.st=(if e then 2 else 1)->bwS e t=true->goF L q (t++r)=goF L { q with st:=1,cur:=q.cur++t } r:=by
 induction t with
 |nil=>
  intro e q r h hb
  cases e with
  |true=>simp[bwS] at hb
  |false=>simp at h;simp[<- h]
 |cons c t ih=>
  intro e q r h hb
  cases e with
  |true=>
   simp only[bwS,Bool.and_eq_true,bne_iff_ne,ne_eq] at hb
   simp at h
   have hs:stepF q c (t++r)=.ok { q with st:=1,cur:=q.cur++[c] }:=by simp[stepF,h,hb.1]
   rw[List.cons_append,goF,hs]
   simp only
   rw[ih false _ r (by simp) hb.2]
   simp
  |false=>
   simp at h
   by_cases h92:c=92
   ·subst h92
    simp only[bwS,if_true] at hb
    have hs:stepF q 92 (t++r)=.ok { q with st:=2,cur:=q.cur++[92] }:=by simp[stepF,nextF,h,show endsW 92=false from by decide]
    rw[List.cons_append,goF,hs]
    simp only
    rw[ih true _ r (by simp) hb]
    simp
   ·simp only[bwS,if_neg h92,Bool.and_eq_true,bne_iff_ne,ne_eq,Bool.not_eq_true'] at hb
    have hs:stepF q c (t++r)=.ok { q with st:=1,cur:=q.cur++[c] }:=by simp[stepF,nextF,h,hb.1.1,hb.1.2,h92]
    rw[List.cons_append,goF,hs]
    simp only
    rw[ih false _ r (by simp) hb.2]
    simp
theorem go_quot(L:Nat)(t:List UInt8):∀(e:Bool) (q:Cf) (r:List UInt8),q.st=(if e then 4 else 3)->qwS e t=true->goF L q (t++r)=goF L { q with st:=3,cur:=q.cur++t } r:=by
 induction t with
 |nil=>
  intro e q r h hb
  cases e with
  |true=>simp[qwS] at hb
  |false=>simp at h;simp[<- h]
 |cons c t ih=>
  intro e q r h hb
  cases e with
  |true=>
   simp only[qwS,Bool.and_eq_true,bne_iff_ne,ne_eq] at hb
   simp at h
   have hs:stepF q c (t++r)=.ok { q with st:=3,cur:=q.cur++[c] }:=by simp[stepF,h,hb.1]
   rw[List.cons_append,goF,hs]
   simp only
   rw[ih false _ r (by simp) hb.2]
   simp
  |false=>
   simp at h
   by_cases h92:c=92
   ·subst h92
    simp only[qwS,if_true] at hb
    have hs:stepF q 92 (t++r)=.ok { q with st:=4,cur:=q.cur++[92] }:=by simp[stepF,quotF,h]
    rw[List.cons_append,goF,hs]
    simp only
    rw[ih true _ r (by simp) hb]
    simp
   ·simp only[qwS,if_neg h92,Bool.and_eq_true,bne_iff_ne,ne_eq] at hb
    have hs:stepF q c (t++r)=.ok { q with st:=3,cur:=q.cur++[c] }:=by simp[stepF,quotF,h,hb.1.1,hb.1.2,h92]
    rw[List.cons_append,goF,hs]
    simp only
    rw[ih false _ r (by simp) hb.2]
    simp
theorem go_word(L:Nat)(w:WdZ)(q:Cf)(r:List UInt8)(hq:q.st=0)(hg:goodW w=true)(hn:q.ws.length<64) :
  goF L q (wtxt w++r)=if w.2 then goF L { addW q w with st:=5 } r else goF L { q with st:=1,cur:=w.1.data.toList } r:=by
 obtain ⟨b,k⟩:=w
 cases k with
 |true=>
  simp only[goodW,if_true] at hg
  simp only[wtxt,if_true]
  have hs:stepF q 34 (b.data.toList++[34]++r)=.ok { q with st:=3,cur:=[] }:=by simp[stepF,firstF,hq,show endsW 34=false from by decide]
  rw[List.cons_append,goF,hs]
  simp only
  rw[List.append_assoc,go_quot L b.data.toList false _ _ (by simp) hg]
  simp only[List.nil_append]
  rw[List.cons_append,List.nil_append,goF]
  have hs2:stepF { q with st:=3,cur:=b.data.toList } 34 r=.ok { addW q (b,true) with st:=5 }:=by
   simp[stepF,quotF,keepF,show ¬ q.ws.length=64 by omega,addW,ba_listZ]
  rw[hs2]
 |false=>
  simp only[goodW,Bool.false_eq_true,if_false,Bool.and_eq_true] at hg
  simp only[wtxt,Bool.false_eq_true,if_false]
  generalize b.data.toList=t at hg ⊢
  cases t with
  |nil=>simp at hg
  |cons c t=>
   by_cases h92:c=92
   ·subst h92
    have hb:bwS true t=true:=by simpa [bwS] using hg.2
    have hs:stepF q 92 (t++r)=.ok { q with st:=2,cur:=[92] }:=by simp[stepF,firstF,hq,show endsW 92=false from by decide]
    rw[List.cons_append,goF,hs]
    simp only
    rw[go_bare L t true _ r (by simp) hb]
    simp
   ·have hb:=hg.2
    simp only[bwS,if_neg h92,Bool.and_eq_true,bne_iff_ne,ne_eq,Bool.not_eq_true'] at hb
    have hs:stepF q c (t++r)=.ok { q with st:=1,cur:=[c] }:=by simp[stepF,firstF,hq,hb.1.1,hb.1.2,h92]
    rw[List.cons_append,goF,hs]
    simp only
    rw[go_bare L t false _ r (by simp) hb.2]
    simp
def outG(L:Nat)(q:Cf)(c:UInt8)(r:List UInt8):Rt:=match outR q c r with | .er e=>.er e q.line | .ok q'=>goF L q' r
theorem outF_st(q:Cf)(k:Nat)(c:UInt8)(r:List UInt8):outF { q with st:=k } c r=outF q c r:=by
 simp only[outF,beginF,closeF]
theorem go_word_end(L:Nat)(w:WdZ)(q:Cf)(c:UInt8)(r:List UInt8)(hq:q.st=0)(hg:goodW w=true)(hn:q.ws.length<64)(hc:endsW c=true) :
  goF L q (wtxt w++c::r)=outG L (addW q w) c r:=by
 rw[go_word L w q _ hq hg hn]
 obtain ⟨b,k⟩:=w
 cases k with
 |true=>
  simp only[if_true]
  rw[goF]
  have hs:stepF { addW q (b,true) with st:=5 } c r=outR (addW q (b,true)) c r:=by
   simp[stepF,hc,outR,outF_st]
  rw[hs];rfl
 |false=>
  simp only[Bool.false_eq_true,if_false]
  rw[goF]
  have hs:stepF { q with st:=1,cur:=b.data.toList } c r=outR (addW q (b,false)) c r:=by
   have e:({ addW { q with st:=1,cur:=b.data.toList } (⟨b.data.toList.toArray⟩,false) with st:=1 }:Cf)={ addW q (b,false) with st:=1 }:=by
    simp[addW,ba_listZ]
   have e2:addW { q with st:=1,cur:=b.data.toList } (⟨b.data.toList.toArray⟩,false)={ addW q (b,false) with st:=1 }:=by
    simp[addW,ba_listZ]
   simp only[stepF,nextF,hc,if_true,keepF,show ¬ q.ws.length=64 by omega,if_false]
   rw[e2]
   simp[outR,outF_st]
  rw[hs];rfl
theorem goodW_first{w:WdZ}(hg:goodW w=true):∃c r,wtxt w=c::r/\isB c=false:=by
 obtain ⟨b,k⟩:=w
 cases k with
 |true=>exact ⟨34,_,rfl,by decide⟩
 |false=>
  simp only[goodW,Bool.false_eq_true,if_false,Bool.and_eq_true] at hg
  simp only[wtxt,Bool.false_eq_true,if_false]
  generalize b.data.toList=t at hg ⊢
  cases t with
  |nil=>simp at hg
  |cons c t=>
   refine ⟨c,t,rfl,?_⟩
   by_cases h92:c=92
   ·subst h92;decide
   ·have hb:=hg.2
    simp only[bwS,if_neg h92,Bool.and_eq_true,bne_iff_ne,ne_eq,Bool.not_eq_true'] at hb
    exact (ends_not hb.1.1).2.2.2.2
def wsTxt:List WdZ->List UInt8
 |[]=>[]
 |[w]=>wtxt w
 |w::v::r=>wtxt w++32::wsTxt (v::r)
def enTxt(e:En):List UInt8:=(if e.blank then [32] else [])++wsTxt e.ws++[10]
def addAll(q:Cf):List WdZ->Cf
 |[]=>q
 |w::r=>addAll (addW q w) r
theorem addAll_st(ws:List WdZ):∀q,(addAll q ws).st=q.st/\(addAll q ws).op=q.op/\(addAll q ws).line=q.line/\(addAll q ws).bl=q.bl/\(addAll q ws).es=q.es/\(addAll q ws).ws=q.ws++ws/\(addAll q ws).el=(if q.ws.isEmpty && !ws.isEmpty then (q.line:Int) else q.el):=by
 induction ws with
 |nil=>intro q;simp[addAll]
 |cons w ws ih=>
  intro q
  have:=ih (addW q w)
  simp only[addAll]
  refine ⟨this.1,this.2.1,this.2.2.1,this.2.2.2.1,this.2.2.2.2.1,by rw[this.2.2.2.2.2.1];simp[addW],?_⟩
  rw[this.2.2.2.2.2.2]
  simp[addW]
theorem out_blank(L:Nat)(q:Cf)(r:List UInt8):outG L q 32 r=goF L { q with st:=0 } r:=by
 simp[outG,outR,outF]
theorem go_words(L:Nat)(ws:List WdZ):∀(q:Cf) (c:UInt8) (r:List UInt8),q.st=0->ws≠[]->(∀w∈ws,goodW w=true)->q.ws.length+ws.length<=64->endsW c=true->
  goF L q (wsTxt ws++c::r)=outG L (addAll q ws) c r:=by
 induction ws with
 |nil=>intro q c r _ h;exact absurd rfl h
 |cons w ws ih=>
  intro q c r hq _ hg hn hc
  cases ws with
  |nil=>
   simp only[wsTxt,addAll]
   exact go_word_end L w q c r hq (hg w (by simp)) (by simp at hn;omega) hc
  |cons v ws=>
   rw[wsTxt,List.append_assoc,List.cons_append,go_word_end L w q 32 _ hq (hg w (by simp)) (by simp at hn;omega) (by decide),out_blank]
   rw[ih { addW q w with st:=0 } c r rfl (by simp) (fun x hx=>hg x (by simp[hx])) (by simp[addW] at hn ⊢;omega) hc]
   have:({ addW q w with st:=0 }:Cf)=addW q w:=by cases q;simp[addW] at hq ⊢;exact hq.symm
   rw[this];rfl
def okE(e:En):Prop:=e.ws≠[]/\e.ws.length<=64/\∀w∈e.ws,goodW w=true
def startQ(n:Nat)(cur:List UInt8)(b:Bool)(es:List En):Cf:=⟨0,n,0,cur,0,b,[],es⟩
theorem enTxt_head{e:En}(h:okE e)(r:List UInt8):headB (enTxt e++r)=e.blank:=by
 unfold enTxt
 cases hb:e.blank with
 |true=>rfl
 |false=>
  obtain ⟨h1,h2,h3⟩:=h
  cases hw:e.ws with
  |nil=>exact absurd hw h1
  |cons w ws=>
   obtain ⟨c,t,e1,e2⟩:=goodW_first (h3 w (by rw[hw];simp))
   cases ws with
   |nil=>simp[wsTxt,e1,headB,e2]
   |cons v ws=>simp[wsTxt,e1,headB,e2]
theorem outG_nl(L:Nat)(q:Cf)(r:List UInt8)(h:q.op=0):outG L q 10 r=goF L (beginF (closeF { q with st:=0,line:=q.line+1 }) r) r:=by
 simp[outG,outR,outF,h]
theorem go_entry(L:Nat)(e:En)(n:Nat)(cur:List UInt8)(b:Bool)(es:List En)(r:List UInt8)(h:okE e)(hb:b=e.blank) :
  ∃cur',goF L (startQ n cur b es) (enTxt e++r)=goF L (startQ (n+1) cur' (headB r) (es++[⟨n,e.blank,e.ws⟩])) r:=by
 subst hb
 have hl:0<e.ws.length:=List.length_pos_iff.2 h.1
 have key:∀q:Cf,q.st=0->q.op=0->q.ws=[]->q.line=n->q.bl=e.blank->q.es=es->∃cur',goF L q (wsTxt e.ws++[10]++r)=goF L (startQ (n+1) cur' (headB r) (es++[⟨n,e.blank,e.ws⟩])) r:=by
  intro q h1 h2 h3 h4 h5 h6
  have ha:=addAll_st e.ws q
  refine ⟨(addAll q e.ws).cur,?_⟩
  rw[List.append_assoc,List.cons_append,List.nil_append,go_words L e.ws q 10 r h1 h.1 h.2.2 (by rw[h3];simpa using h.2.1) (by decide),outG_nl _ _ _ (by rw[ha.2.1,h2])]
  congr 1
  obtain ⟨a1,a2,a3,a4,a5,a6,a7⟩:=ha
  have hne:(q.ws++e.ws).isEmpty=false:=by rw[h3];cases hw:e.ws with|nil=>exact absurd hw h.1|cons=>rfl
  have hne2:e.ws.isEmpty=false:=by cases hw:e.ws with|nil=>exact absurd hw h.1|cons=>rfl
  simp[beginF,closeF,startQ,a2,a3,a4,a5,a6,a7,h1,h2,h3,h4,h5,h6,hne,hne2,h.1]
 cases hbl:e.blank with
 |false=>
  have:=key (startQ n cur e.blank es) rfl rfl rfl rfl rfl rfl
  unfold enTxt
  rw[hbl] at this ⊢
  simpa using this
 |true=>
  have:=key { (startQ n cur e.blank es) with st:=0 } rfl rfl rfl rfl rfl rfl
  obtain ⟨cur',hk⟩:=this
  refine ⟨cur',?_⟩
  unfold enTxt
  rw[hbl] at hk ⊢
  simp only[if_true,List.cons_append,List.nil_append]
  rw[goF]
  have hs:stepF (startQ n cur true es) 32 (wsTxt e.ws++[10]++r)=.ok (startQ n cur true es):=by
   simp[stepF,firstF,startQ,show endsW 32=true from by decide,outR,outF]
  rw[hs]
  exact hk
theorem bw_app(u v:List UInt8):∀e,bwS e u=true->bwS e (u++v)=bwS false v:=by
 induction u with
 |nil=>intro e h;cases e <;> simp[bwS] at h ⊢
 |cons c u ih=>
  intro e h
  cases e with
  |true=>
   simp only[bwS,Bool.and_eq_true] at h
   simp only[List.cons_append,bwS,h.1,Bool.true_and]
   exact ih _ h.2
  |false=>
   by_cases h92:c=92
   ·simp only[bwS,if_pos h92] at h
    simp only[List.cons_append,bwS,if_pos h92]
    exact ih _ h
   ·simp only[bwS,if_neg h92,Bool.and_eq_true] at h
    simp only[List.cons_append,bwS,if_neg h92,h.1.1,h.1.2,Bool.true_and]
    exact ih _ h.2
theorem qw_app(u v:List UInt8):∀e,qwS e u=true->qwS e (u++v)=qwS false v:=by
 induction u with
 |nil=>intro e h;cases e <;> simp[qwS] at h ⊢
 |cons c u ih=>
  intro e h
  cases e with
  |true=>
   simp only[qwS,Bool.and_eq_true] at h
   simp only[List.cons_append,qwS,h.1,Bool.true_and]
   exact ih _ h.2
  |false=>
   by_cases h92:c=92
   ·simp only[qwS,if_pos h92] at h
    simp only[List.cons_append,qwS,if_pos h92]
    exact ih _ h
   ·simp only[qwS,if_neg h92,Bool.and_eq_true] at h
    simp only[List.cons_append,qwS,if_neg h92,h.1.1,h.1.2,Bool.true_and]
    exact ih _ h.2
def wsum(ws:List WdZ):Nat:=(ws.map fun w=>(wtxt w).length).sum
def esum(es:List En):Nat:=(es.map fun e=>wsum e.ws).sum
theorem wsum_app(a b:List WdZ):wsum (a++b)=wsum a+wsum b:=by simp[wsum]
theorem esum_app(a b:List En):esum (a++b)=esum a+esum b:=by simp[esum]
def part(q:Cf):Nat:=if q.st=1∨q.st=2 then q.cur.length else if q.st=3∨q.st=4 then q.cur.length+1 else 0
structure Iv(q:Cf)(n:Nat):Prop where
 w1:∀w∈q.ws,goodW w=true
 w2:q.ws.length<=64
 e1:∀e∈q.es,okE e
 c1:q.st=1->bwS false q.cur=true/\q.cur≠[]
 c2:q.st=2->∃u,q.cur=u++[92]/\bwS false u=true
 c3:q.st=3->qwS false q.cur=true
 c4:q.st=4->∃u,q.cur=u++[92]/\qwS false u=true
 sz:esum q.es+wsum q.ws+part q<=n
theorem Iv.close{q:Cf}{n:Nat}(h:Iv q n):(∀e∈(closeF q).es,okE e)/\esum (closeF q).es<=esum q.es+wsum q.ws:=by
 unfold closeF
 cases hw:q.ws with
 |nil=>simp;exact h.e1
 |cons w ws=>
  simp only[List.isEmpty_cons,Bool.false_eq_true,if_false]
  refine ⟨fun e he=>?_,by rw[esum_app];simp[esum]⟩
  rcases List.mem_append.1 he with he|he
  ·exact h.e1 e he
  ·simp at he;subst he
   exact ⟨by simp,by rw[<- hw];exact h.w2,by rw[<- hw];exact h.w1⟩
theorem Iv.out{q q':Cf}{n:Nat}{c:UInt8}{r:List UInt8}(h:Iv q n)(ho:outF q c r=some q'):Iv q' (n+1):=by
 have hz:esum q.es+wsum q.ws<=n:=by have:=h.sz;omega
 have hs:∀(k o l:Nat),k=0∨k=6->Iv { q with st:=k,op:=o,line:=l } (n+1):=by
  intro k o l hk
  refine ⟨h.w1,h.w2,h.e1,?_,?_,?_,?_,?_⟩
  all_goals try (rcases hk with hk|hk <;> simp[hk])
  ·simp[part];omega
  ·simp[part];omega
 unfold outF at ho
 split at ho
 ·cases ho;exact hs 6 _ _ (.inr rfl)
 ·split at ho
  ·cases ho;exact hs 0 _ _ (.inl rfl)
  ·split at ho
   ·split at ho
    ·cases ho
    ·cases ho;exact hs 0 _ _ (.inl rfl)
   ·split at ho
    ·split at ho
     ·cases ho
      have hc:=(hs 0 q.op (q.line+1) (.inl rfl)).close
      refine ⟨by simp[beginF],by simp[beginF],hc.1,by simp[beginF,closeF],by simp[beginF,closeF],by simp[beginF,closeF],by simp[beginF,closeF],?_⟩
      have:=hc.2
      simp only[beginF]
      show esum (closeF _).es+wsum []+part _<=n+1
      simp[part,wsum,closeF] at this ⊢
      simp[wsum] at hz
      omega
     ·cases ho;exact hs 0 _ _ (.inl rfl)
    ·cases ho;exact hs 0 _ _ (.inl rfl)
theorem Iv.keep{q q':Cf}{n:Nat}{b:Bool}(h:Iv q n)(hg:goodW (⟨q.cur.toArray⟩,b)=true)(ho:keepF q b=some q')(m:Nat)(hm:esum q.es+wsum q.ws+(wtxt (⟨q.cur.toArray⟩,b)).length<=m)(k:Nat)(hk:k=0∨k=5):Iv { q' with st:=k } m:=by
 unfold keepF at ho
 split at ho
 ·cases ho
 ·rename_i hl
  cases ho
  have h2:=h.w2
  refine ⟨?_,?_,h.e1,?_,?_,?_,?_,?_⟩
  ·intro w hw
   simp only[addW] at hw
   rcases List.mem_append.1 hw with hw|hw
   ·exact h.w1 w hw
   ·simp at hw;subst hw;exact hg
  ·simp[addW];omega
  all_goals try (rcases hk with hk|hk <;> simp[hk])
  all_goals
   simp only[addW,wsum_app,part]
   simp[wsum] at hm ⊢
   omega
theorem good_bare{u:List UInt8}(h:bwS false u=true)(h0:u≠[]):goodW (⟨u.toArray⟩,false)=true:=by
 simp[goodW,h,h0]
theorem good_quot{u:List UInt8}(h:qwS false u=true):goodW (⟨u.toArray⟩,true)=true:=by
 simp[goodW,h]
theorem outR_ok{q q':Cf}{c:UInt8}{r:List UInt8}(h:outR q c r=.ok q'):outF q c r=some q':=by
 unfold outR at h;split at h
 ·cases h
 ·rename_i x hx;cases h;exact hx
theorem Iv.step{q q':Cf}{n:Nat}{c:UInt8}{r:List UInt8}(h:Iv q n)(hs:stepF q c r=.ok q'):Iv q' (n+1):=by
 have hz:=h.sz
 unfold stepF at hs
 split at hs
 ·cases hs
 ·rename_i h10
  split at hs
  ·rename_i h0
   unfold firstF at hs
   split at hs
   ·exact h.out (outR_ok hs)
   ·rename_i he
    have he':=ends_not (by simpa using he)
    split at hs
    ·cases hs
     exact ⟨h.w1,h.w2,h.e1,by simp,by simp,by simp[qwS],by simp,by simp[part,h0] at hz ⊢;omega⟩
    ·split at hs
     ·rename_i h92
      cases hs
      exact ⟨h.w1,h.w2,h.e1,by simp,fun _=>⟨[],by simp[h92],by simp[bwS]⟩,by simp,by simp,by simp[part,h0] at hz ⊢;omega⟩
     ·rename_i h34 h92
      cases hs
      exact ⟨h.w1,h.w2,h.e1,fun _=>⟨by simpa [bwS,h92,h34] using he,by simp⟩,by simp,by simp,by simp,by simp[part,h0] at hz ⊢;omega⟩
  ·split at hs
   ·rename_i h0 h1
    obtain ⟨hb,hne⟩:=h.c1 h1
    unfold nextF at hs
    split at hs
    ·split at hs
     ·cases hs
     ·rename_i q1 hk
      have hI:=h.keep (good_bare hb hne) hk n (by simp[part,h1] at hz;simp[wtxt];omega) 0 (.inl rfl)
      have:=hI.out (q':=q') (c:=c) (r:=r) (by rw[outF_st];exact outR_ok hs)
      exact this
    ·rename_i he
     split at hs
     ·cases hs
     ·rename_i h34
      split at hs
      ·rename_i h92
       cases hs
       exact ⟨h.w1,h.w2,h.e1,by simp,fun _=>⟨q.cur,by simp[h92],hb⟩,by simp,by simp,by simp[part,h1] at hz ⊢;omega⟩
      ·rename_i h92
       cases hs
       exact ⟨h.w1,h.w2,h.e1,fun _=>⟨by rw[bw_app _ _ _ hb];simpa [bwS,h92,h34] using he,by simp⟩,by simp,by simp,by simp,by simp[part,h1] at hz ⊢;omega⟩
   ·split at hs
    ·rename_i h0 h1 h2
     obtain ⟨u,hu,hb⟩:=h.c2 h2
     cases hs
     have h10':c≠10:=by intro e;exact h10 ⟨e,.inr (.inl h2)⟩
     exact ⟨h.w1,h.w2,h.e1,fun _=>⟨by rw[hu,List.append_assoc,bw_app _ _ _ hb];simp[bwS,h10'],by simp⟩,by simp,by simp,by simp,by simp[part,h2] at hz ⊢;omega⟩
    ·split at hs
     ·rename_i h0 h1 h2 h3
      have hb:=h.c3 h3
      have h10':c≠10:=by intro e;exact h10 ⟨e,.inl h3⟩
      unfold quotF at hs
      split at hs
      ·split at hs
       ·cases hs
       ·rename_i q1 hk
        cases hs
        exact h.keep (good_quot hb) hk (n+1) (by simp[part,h3] at hz;simp[wtxt];omega) 5 (.inr rfl)
      ·rename_i h34
       split at hs
       ·rename_i h92
        cases hs
        exact ⟨h.w1,h.w2,h.e1,by simp,by simp,by simp,fun _=>⟨q.cur,by simp[h92],hb⟩,by simp[part,h3] at hz ⊢;omega⟩
       ·rename_i h92
        cases hs
        exact ⟨h.w1,h.w2,h.e1,by simp,by simp,fun _=>by rw[qw_app _ _ _ hb];simp[qwS,h92,h34,h10'],by simp,by simp[part,h3] at hz ⊢;omega⟩
     ·split at hs
      ·rename_i h0 h1 h2 h3 h4
       obtain ⟨u,hu,hb⟩:=h.c4 h4
       cases hs
       have h10':c≠10:=by intro e;exact h10 ⟨e,.inr (.inr h4)⟩
       exact ⟨h.w1,h.w2,h.e1,by simp,by simp,fun _=>by rw[hu,List.append_assoc,qw_app _ _ _ hb];simp[qwS,h10'],by simp,by simp[part,h4] at hz ⊢;omega⟩
      ·split at hs
       ·split at hs
        ·exact h.out (outR_ok hs)
        ·cases hs
       ·split at hs
        ·exact h.out (outR_ok hs)
        ·rename_i h0 h1 h2 h3 h4 h5 _
         cases hs
         exact ⟨h.w1,h.w2,h.e1,h.c1,h.c2,h.c3,h.c4,by omega⟩
theorem keepF_es{q q':Cf}{b:Bool}(h:keepF q b=some q'):q'.es=q.es/\q'.op=q.op/\q'.ws=q.ws++[(⟨q.cur.toArray⟩,b)]:=by
 unfold keepF at h;split at h
 ·cases h
 ·cases h;simp[addW]
theorem Iv.fin{q:Cf}{n L:Nat}{es:List En}(h:Iv q n)(hs:finF L q=.ok es):(∀e∈es,okE e)/\esum es<=n:=by
 have hz:=h.sz
 unfold finF at hs
 split at hs
 ·cases hs
 ·split at hs
  ·rename_i h1
   obtain ⟨hb,hne⟩:=h.c1 h1
   split at hs
   ·cases hs
   ·rename_i q1 hk
    have hI:=h.keep (good_bare hb hne) hk n (by simp[part,h1] at hz;simp[wtxt];omega) 0 (.inl rfl)
    split at hs
    ·cases hs
    ·cases hs
     have hc:=hI.close
     have hsz:=hI.sz
     have e:(closeF { q1 with st:=0 }).es=(closeF q1).es:=rfl
     rw[e] at hc
     refine ⟨hc.1,?_⟩
     have:=hc.2
     simp only at this hsz
     omega
  ·split at hs
   ·cases hs
   ·cases hs
    have hc:=h.close
    exact ⟨hc.1,by have:=hc.2;omega⟩
theorem Iv.go{L:Nat}(r:List UInt8):∀{q:Cf} {n:Nat} {es:List En},Iv q n->goF L q r=.ok es->(∀e∈es,okE e)/\esum es<=n+r.length:=by
 induction r with
 |nil=>intro q n es h hs;simpa using h.fin hs
 |cons c r ih=>
  intro q n es h hs
  rw[goF] at hs
  split at hs
  ·cases hs
  ·rename_i q1 h1
   have:=ih (h.step h1) hs
   simp only[List.length_cons]
   exact ⟨this.1,by omega⟩
theorem ents_ok{s:List UInt8}{es:List En}(h:entsF s=.ok es):(∀e∈es,okE e)/\esum es<=s.length:=by
 unfold entsF at h
 split at h
 ·cases h
 ·have:=Iv.go (n:=0) s (q:=q0 s) ⟨by simp[q0],by simp[q0],by simp[q0],by simp[q0],by simp[q0],by simp[q0],by simp[q0],by simp[q0,part,esum,wsum]⟩ h
  simpa using this
theorem cnt10_app(a b:List UInt8):cnt10 (a++b)=cnt10 a+cnt10 b:=by
 induction a with
 |nil=>simp[cnt10]
 |cons c a ih=>simp[cnt10,ih];omega
theorem cnt10_last{s:List UInt8}(h:s.getLast?=some 10):1<=cnt10 s:=by
 obtain ⟨t,rfl⟩:∃t,s=t++[10]:=by
  have:=List.getLast?_eq_some_iff.1 h
  exact this
 rw[cnt10_app];simp[cnt10]
theorem lines_app(p:List UInt8)(c:UInt8)(r:List UInt8):cnt10 p+1<=linesF (p++c::r):=by
 unfold linesF
 have hl:(p++c::r).getLast?=(c::r).getLast?:=by
  rw[List.getLast?_append]
  cases hx:(c::r).getLast? with
  |none=>simp at hx
  |some v=>rfl
 rw[cnt10_app,hl]
 by_cases h:(c::r).getLast?=some 10
 ·have:=cnt10_last h;omega
 ·have h0:¬ (c::r).getLast?=none:=by simp
  rw[if_neg (by simp only[not_or];exact ⟨h0,h⟩)];omega
theorem lines_le(s:List UInt8):linesF s<=s.length+1:=by
 have:∀l:List UInt8,cnt10 l<=l.length:=by
  intro l;induction l with
  |nil=>simp[cnt10]
  |cons c l ih=>simp[cnt10];split <;> omega
 unfold linesF;have:=this s;split <;> omega
structure Lv(q:Cf)(p:List UInt8):Prop where
 ln:q.line=cnt10 p+1
 nl:p.getLast?=some 10->q.st=0
 st:p=[]->q.st=0/\q.op=0
theorem out_line{q q':Cf}{c:UInt8}{r:List UInt8}(h:outF q c r=some q'):q'.line=q.line+(if c=10 then 1 else 0)/\(c=10->q'.st=0):=by
 unfold outF at h
 split at h
 ·rename_i hc;cases h;subst hc;simp
 ·split at h
  ·rename_i hc;cases h;subst hc;simp
  ·split at h
   ·rename_i hc
    split at h
    ·cases h
    ·cases h;subst hc;simp
   ·split at h
    ·rename_i hc
     split at h
     ·cases h;subst hc;simp[beginF,closeF]
     ·cases h;subst hc;simp
    ·rename_i hc;cases h;simp[hc]
theorem keep_line{q q':Cf}{b:Bool}(h:keepF q b=some q'):q'.line=q.line:=by
 unfold keepF at h;split at h
 ·cases h
 ·cases h;rfl
theorem step_line{q q':Cf}{c:UInt8}{r:List UInt8}(hs:stepF q c r=.ok q'):q'.line=q.line+(if c=10 then 1 else 0)/\(c=10->q'.st=0):=by
 unfold stepF at hs
 split at hs
 ·cases hs
 ·rename_i h10
  split at hs
  ·unfold firstF at hs
   split at hs
   ·exact out_line (outR_ok hs)
   ·rename_i he
    have hc:=(ends_not (by simpa using he)).1
    split at hs
    ·cases hs;simp[hc]
    ·split at hs
     ·cases hs;simp[hc]
     ·cases hs;simp[hc]
  ·split at hs
   ·unfold nextF at hs
    split at hs
    ·split at hs
     ·cases hs
     ·rename_i q1 hk
      have:=out_line (outR_ok hs)
      rw[keep_line hk] at this
      exact this
    ·rename_i he
     have hc:=(ends_not (by simpa using he)).1
     split at hs
     ·cases hs
     ·split at hs
      ·cases hs;simp[hc]
      ·cases hs;simp[hc]
   ·split at hs
    ·rename_i h2
     have hc:¬ c=10:=fun e=>h10 ⟨e,.inr (.inl h2)⟩
     cases hs;simp[hc]
    ·split at hs
     ·rename_i h3
      have hc:¬ c=10:=fun e=>h10 ⟨e,.inl h3⟩
      unfold quotF at hs
      split at hs
      ·split at hs
       ·cases hs
       ·rename_i q1 hk
        cases hs;simp[hc,keep_line hk]
      ·split at hs
       ·cases hs;simp[hc]
       ·cases hs;simp[hc]
     ·split at hs
      ·rename_i h4
       have hc:¬ c=10:=fun e=>h10 ⟨e,.inr (.inr h4)⟩
       cases hs;simp[hc]
      ·split at hs
       ·split at hs
        ·exact out_line (outR_ok hs)
        ·cases hs
       ·split at hs
        ·exact out_line (outR_ok hs)
        ·rename_i hc;cases hs;simp[hc]
theorem Lv.step{q q':Cf}{p:List UInt8}{c:UInt8}{r:List UInt8}(h:Lv q p)(hs:stepF q c r=.ok q'):Lv q' (p++[c]):=by
 obtain ⟨a,b⟩:=step_line hs
 refine ⟨by rw[a,h.ln,cnt10_app];simp[cnt10];omega,fun e=>?_,by simp⟩
 simp at e;exact b e
theorem step_er{q:Cf}{c:UInt8}{r:List UInt8}{e:Nat}(hs:stepF q c r=.er e):e=230∨e=3:=by
 have ho:∀q,outR q c r=.er e->e=230:=by
  intro q h;unfold outR at h;split at h <;> cases h;rfl
 unfold stepF at hs
 split at hs
 ·cases hs;exact .inl rfl
 ·split at hs
  ·unfold firstF at hs
   split at hs
   ·exact .inl (ho _ hs)
   ·split at hs
    ·cases hs
    ·split at hs <;> cases hs
  ·split at hs
   ·unfold nextF at hs
    split at hs
    ·split at hs
     ·cases hs;exact .inr rfl
     ·exact .inl (ho _ hs)
    ·split at hs
     ·cases hs;exact .inl rfl
     ·split at hs <;> cases hs
   ·split at hs
    ·cases hs
    ·split at hs
     ·unfold quotF at hs
      split at hs
      ·split at hs
       ·cases hs;exact .inr rfl
       ·cases hs
      ·split at hs <;> cases hs
     ·split at hs
      ·cases hs
      ·split at hs
       ·split at hs
        ·exact .inl (ho _ hs)
        ·cases hs;exact .inl rfl
       ·split at hs
        ·exact .inl (ho _ hs)
        ·cases hs
theorem go_er(s:List UInt8)(r:List UInt8):∀{q:Cf} {p:List UInt8} {e l:Nat},Lv q p->s=p++r->goF (linesF s) q r=.er e l->(e=230∨e=3)/\1<=l/\l<=linesF s:=by
 induction r with
 |nil=>
  intro q p e l h hs hg
  rw[List.append_nil] at hs;subst hs
  have hne:∀(hx:s≠[]),1<=linesF s:=by
   intro hx
   cases s with
   |nil=>exact absurd rfl hx
   |cons c r=>have:=lines_app [] c r;simpa [cnt10] using this
  rw[goF] at hg
  unfold finF at hg
  split at hg
  ·rename_i hq
   cases hg
   exact ⟨.inl rfl,hne (fun e=>by have:=(h.st e).1;omega),Nat.le_refl _⟩
  ·split at hg
   ·rename_i h1
    have hx:s≠[]:=fun e=>by have:=(h.st e).1;omega
    split at hg
    ·cases hg
     refine ⟨.inr rfl,by rw[h.ln];omega,?_⟩
     rw[h.ln]
     unfold linesF
     rw[if_neg]
     ·omega
     ·simp only[not_or]
      exact ⟨by simpa using hx,fun e=>by have:=h.nl e;omega⟩
    ·split at hg
     ·cases hg;exact ⟨.inl rfl,hne hx,Nat.le_refl _⟩
     ·cases hg
   ·split at hg
    ·rename_i h0
     cases hg
     exact ⟨.inl rfl,hne (fun e=>by have:=(h.st e).2;omega),Nat.le_refl _⟩
    ·cases hg
 |cons c r ih=>
  intro q p e l h hs hg
  rw[goF] at hg
  split at hg
  ·rename_i e1 h1
   cases hg
   have:=lines_app p c r
   rw[<- hs] at this
   rw[h.ln]
   exact ⟨step_er h1,by omega,this⟩
  ·rename_i q1 h1
   exact ih (h.step h1) (by rw[hs];simp) hg
theorem ents_er{s:List UInt8}{e l:Nat}(hl:s.length<=65536)(h:entsF s=.er e l):(e=230∨e=3)/\1<=l/\l<=linesF s:=by
 unfold entsF at h
 rw[if_neg (by omega)] at h
 exact go_er s s (q:=q0 s) (p:=[]) ⟨by simp[q0,cnt10],by simp,by simp[q0]⟩ (by simp) h
end Go.Proofs.YtjkljpdolhglcaaGreatDoor
namespace Go.Proofs.YtjkljpdolhglcaaGreatDoor
open Go.ChangeShapes Go.WideShapes Go.ChangeAt Go.RowKit
theorem ad_add(g j:Nat):(⟨g,0,none⟩:Addr).add j=⟨g,j,none⟩:=by unfold Addr.add;split <;> simp_all
theorem ad_add0(g j:Nat):(⟨g,0,none⟩:Addr).add j=⟨g,0+j,none⟩:=by rw[ad_add];simp
theorem row_stays{B e k n:Nat}{v:Value}{xs:List Value}{w w':World}(h:w.ownsRow B e k v n xs)(hb:∀g,v.ownBlock=some g->w'.heap[g]?=w.heap[g]?):w'.ownsRow B e k v n xs:=by
 refine ⟨h.1,?_⟩
 rcases h.2 with hn|⟨g,cap,cur,rfl,h1,h2,rest⟩
 ·exact .inl hn
 ·exact .inr ⟨g,cap,cur,rfl,h1,by rw[hb g rfl];exact h2,rest⟩
theorem row_type{B e k n:Nat}{v:Value}{xs:List Value}{w:World}(h:w.ownsRow B e k v n xs)(g:Nat)(hg:v.ownBlock=some g):∃cur,w.heap[g]?=some (.cells cur e (0,0)):=by
 rcases h.2 with ⟨rfl,_⟩|⟨g',cap,cur,rfl,h1,h2,rest⟩
 ·simp[Value.ownBlock] at hg
 ·simp[Value.ownBlock] at hg;subst hg;exact ⟨cur,h2⟩
def cellsWZ(ws:List WdZ):List Value:=ws.flatMap fun p=>[.string p.1,.bool p.2]
theorem cellsW_at(ws:List WdZ)(k:Nat)(h:k<ws.length):(cellsWZ ws)[k*2]?=some (.string ws[k].1)/\(cellsWZ ws)[k*2+1]?=some (.bool ws[k].2):=by
 induction ws generalizing k with
 |nil=>simp at h
 |cons p ws ih=>
  cases k with
  |zero=>simp[cellsWZ,List.flatMap_cons]
  |succ k=>
   have:=ih k (by simpa using h)
   rw[show (k+1)*2=k*2+1+1 by omega]
   simpa [cellsWZ,List.flatMap_cons] using this
theorem cellsW_app(a b:List WdZ):cellsWZ (a++b)=cellsWZ a++cellsWZ b:=by simp[cellsWZ]
theorem cellsW_one(ws:List WdZ):∀u∈cellsWZ ws,u.oneCell'=true:=by
 intro u hu
 simp only[cellsWZ,List.mem_flatMap] at hu
 obtain ⟨p,_,hu⟩:=hu
 simp at hu
 rcases hu with rfl|rfl <;> rfl
def RdWZ(w:World)(a:Option Addr)(ws:List WdZ):Prop:=
 ws=[]∨∃b o,a=some ⟨b,o,none⟩/\b<w.heap.size/\∀i (h:i<ws.length),w.cell? ⟨b,o+i*2,none⟩=some (.string ws[i].1)/\w.cell? ⟨b,o+i*2+1,none⟩=some (.bool ws[i].2)
theorem RdWZ.at{w:World}{a:Option Addr}{ws:List WdZ}(h:RdWZ w a ws)(i:Nat)(hi:i<ws.length):∃b o,a=some ⟨b,o,none⟩/\b<w.heap.size/\w.cell? ⟨b,o+i*2,none⟩=some (.string ws[i].1)/\w.cell? ⟨b,o+i*2+1,none⟩=some (.bool ws[i].2):=by
 rcases h with h|⟨b,o,h1,h2,h3⟩
 ·subst h;simp at hi
 ·exact ⟨b,o,h1,h2,h3 i hi⟩
theorem RdWZ.below{w w':World}{a:Option Addr}{ws:List WdZ}(h:RdWZ w a ws)(hb:Below w.heap.size w w'):RdWZ w' a ws:=by
 rcases h with h|⟨b,o,h1,h2,h3⟩
 ·exact .inl h
 ·exact .inr ⟨b,o,h1,Nat.lt_of_lt_of_le h2 hb.size,fun i hi=>⟨(hb.cell (p:=⟨b,o+i*2,none⟩) h2).trans (h3 i hi).1,(hb.cell (p:=⟨b,o+i*2+1,none⟩) h2).trans (h3 i hi).2⟩⟩
def WRd(w:World)(x:Sl)(ws:List WdZ):Prop:=x.n=ws.length/\ws.length<=x.c/\x.c<=9223372036854775807/\RdWZ w x.a ws
theorem WRd.below{w w':World}{x:Sl}{ws:List WdZ}(h:WRd w x ws)(hb:Below w.heap.size w w'):WRd w' x ws:=⟨h.1,h.2.1,h.2.2.1,h.2.2.2.below hb⟩
theorem row_wrd{B:Nat}{w:World}{v:Value}{ws:List WdZ}(h:w.ownsRow B 77 2 v ws.length (cellsWZ ws)):∃x:Sl,v=.slice x.a x.n x.c/\WRd w x ws:=by
 rcases h.2 with ⟨rfl,h0⟩|⟨g,cap,cur,rfl,hb,hg,h1,h2,h3,h4⟩
 ·have:ws=[]:=List.length_eq_zero_iff.1 h0
  subst this
  exact ⟨⟨none,0,0⟩,rfl,rfl,by simp,by simp,.inl rfl⟩
 ·refine ⟨⟨_,ws.length,cap⟩,rfl,rfl,h1,by simpa only[maxLen] using h2,.inr ⟨g,0,rfl,(Array.getElem?_eq_some_iff.1 hg).1,fun i hi=>?_⟩⟩
  obtain ⟨c1,c2⟩:=cellsW_at ws i hi
  have k1:=h.cells (g:=g) rfl _ _ c1
  have k2:=h.cells (g:=g) rfl _ _ c2
  rw[ad_add0] at k1 k2
  exact ⟨k1,k2⟩
theorem inf27:∃i,Tryz.prog.info? 77=some i/\i.zero=some (.agg #[.string ⟨#[]⟩,.bool false])/\i.size=2/\i.bytes=24:=by
 have h:(Tryz.prog.info? 77).map (fun i=>(i.zero,i.size,i.bytes))=some (some (.agg #[.string ⟨#[]⟩,.bool false]),2,24):=by kernel_rfl
 obtain ⟨i,h1,h2⟩:=Option.map_eq_some_iff.1 h
 simp only[Prod.mk.injEq] at h2
 exact ⟨i,h1,h2.1,h2.2.1,h2.2.2⟩
theorem inf25:∃i,Tryz.prog.info? 75=some i/\i.zero=some (.agg #[.int .i64 0,.bool false,.slice none 0 0])/\i.size=3/\i.bytes=40:=by
 have h:(Tryz.prog.info? 75).map (fun i=>(i.zero,i.size,i.bytes))=some (some (.agg #[.int .i64 0,.bool false,.slice none 0 0]),3,40):=by kernel_rfl
 obtain ⟨i,h1,h2⟩:=Option.map_eq_some_iff.1 h
 simp only[Prod.mk.injEq] at h2
 exact ⟨i,h1,h2.1,h2.2.1,h2.2.2⟩
theorem one_termw(w:World)(s:ByteArray)(q:Bool):∀j u,(cellsWZ [(s,q)])[j]?=some u->(w.alloc (.cells #[.string s,.bool q] 77)).cell? ((⟨w.heap.size,0,none⟩:Addr).add j)=some u:=by
 intro j u hu
 rw[ad_add]
 unfold World.cell?
 rw[heap_alloc_new]
 match j,hu with
 |0,hu=>simpa [cellsWZ] using hu
 |1,hu=>simpa [cellsWZ] using hu
 |j+2,hu=>simp[cellsWZ] at hu
def eCells(x:Sl)(e:En):List Value:=[.int .i64 e.line,.bool e.blank,.slice x.a x.n x.c]
def cellsE(ps:List (Sl × En)):List Value:=ps.flatMap fun p=>eCells p.1 p.2
theorem cellsE_at(ps:List (Sl × En))(k:Nat)(h:k<ps.length)(j:Nat)(hj:j<3):(cellsE ps)[k*3+j]?=(eCells ps[k].1 ps[k].2)[j]?:=by
 induction ps generalizing k with
 |nil=>simp at h
 |cons p ws ih=>
  have hc:cellsE (p::ws)=eCells p.1 p.2++cellsE ws:=by simp[cellsE]
  have h8:(eCells p.1 p.2).length=3:=rfl
  rw[hc]
  cases k with
  |zero=>rw[List.getElem?_append_left (by rw[h8];omega)];simp
  |succ k=>
   have:=ih k (by simpa using h)
   rw[List.getElem?_append_right (by rw[h8];omega),h8,show (k+1)*3+j - 3=k*3+j by omega,this]
   simp
theorem cellsE_app(a b:List (Sl × En)):cellsE (a++b)=cellsE a++cellsE b:=by simp[cellsE]
theorem cellsE_one(xs:List (Sl × En)):∀u∈cellsE xs,u.oneCell'=true:=by
 intro u hu
 simp only[cellsE,List.mem_flatMap] at hu
 obtain ⟨p,_,hu⟩:=hu
 simp[eCells] at hu
 rcases hu with rfl|rfl|rfl <;> rfl
def RdE(w:World)(a:Option Addr)(es:List En):Prop:=
 es=[]∨∃b o,a=some ⟨b,o,none⟩/\b<w.heap.size/\∀i (h:i<es.length),∃x:Sl,w.cell? ⟨b,o+i*3,none⟩=some (.int .i64 es[i].line)/\w.cell? ⟨b,o+i*3+1,none⟩=some (.bool es[i].blank)/\w.cell? ⟨b,o+i*3+2,none⟩=some (.slice x.a x.n x.c)/\WRd w x es[i].ws
theorem RdE.below{w w':World}{a:Option Addr}{es:List En}(h:RdE w a es)(hb:Below w.heap.size w w'):RdE w' a es:=by
 rcases h with h|⟨b,o,h1,h2,h3⟩
 ·exact .inl h
 ·refine .inr ⟨b,o,h1,Nat.lt_of_lt_of_le h2 hb.size,fun i hi=>?_⟩
  obtain ⟨x,e1,e2,e3,e4⟩:=h3 i hi
  exact ⟨x,(hb.cell (p:=⟨b,o+i*3,none⟩) h2).trans e1,(hb.cell (p:=⟨b,o+i*3+1,none⟩) h2).trans e2,(hb.cell (p:=⟨b,o+i*3+2,none⟩) h2).trans e3,e4.below hb⟩
theorem RdE.at{w:World}{a:Option Addr}{es:List En}(h:RdE w a es)(i:Nat)(hi:i<es.length):∃b o,a=some ⟨b,o,none⟩/\b<w.heap.size/\∃x:Sl,w.cell? ⟨b,o+i*3,none⟩=some (.int .i64 es[i].line)/\w.cell? ⟨b,o+i*3+1,none⟩=some (.bool es[i].blank)/\w.cell? ⟨b,o+i*3+2,none⟩=some (.slice x.a x.n x.c)/\WRd w x es[i].ws:=by
 rcases h with h|⟨b,o,h1,h2,h3⟩
 ·subst h;simp at hi
 ·exact ⟨b,o,h1,h2,h3 i hi⟩
def lst(w:World)(j:Nat):Prop:=∃cur t,w.heap[j]?=some (.cells cur t (0,0))/\(t=75∨t=77)
theorem lst.lt{w:World}{j:Nat}(h:lst w j):j<w.heap.size:=by obtain ⟨_,_,h,_⟩:=h;exact (Array.getElem?_eq_some_iff.1 h).1
def RfE(B:Nat)(w:World)(x:Sl)(ws:List WdZ):Prop:=
 ∀w':World,w.heap.size<=w'.heap.size->(∀j,B<=j->(∃cur,w.heap[j]?=some (.cells cur 77 (0,0)))->w'.heap[j]?=w.heap[j]?)->WRd w' x ws
theorem RfE.of{B:Nat}{w:World}{v:Value}{ws:List WdZ}(h:w.ownsRow B 77 2 v ws.length (cellsWZ ws)):∃x:Sl,v=.slice x.a x.n x.c/\RfE B w x ws:=by
 obtain ⟨x,hx,_⟩:=row_wrd h
 refine ⟨x,hx,fun w' hs hb=>?_⟩
 have h':w'.ownsRow B 77 2 v ws.length (cellsWZ ws):=row_stays h (fun g hg=>hb g (h.lt g hg).1 (row_type h g hg))
 obtain ⟨y,hy,h2⟩:=row_wrd h'
 rw[hx] at hy
 cases x;cases y
 simp only[Value.slice.injEq] at hy
 obtain ⟨rfl,rfl,rfl⟩:=hy
 exact h2
theorem RfE.go{B:Nat}{w w':World}{x:Sl}{ws:List WdZ}(h:RfE B w x ws)(hs:w.heap.size<=w'.heap.size)(hb:∀j,B<=j->(∃cur,w.heap[j]?=some (.cells cur 77 (0,0)))->w'.heap[j]?=w.heap[j]?):RfE B w' x ws:=by
 intro w2 hs2 hb2
 refine h w2 (Nat.le_trans hs hs2) (fun j h1 h2=>?_)
 have e:=hb j h1 h2
 obtain ⟨cur,hc⟩:=h2
 exact (hb2 j h1 ⟨cur,e.trans hc⟩).trans e
def OwE(B:Nat)(w:World)(v:Value)(es:List En):Prop:=
 ∃ps:List (Sl × En),ps.map (·.2)=es/\w.ownsRow B 75 3 v ps.length (cellsE ps)/\∀p∈ps,RfE B w p.1 p.2.ws
theorem OwE.nil(B:Nat)(w:World):OwE B w (.slice none 0 0) []:=⟨[],rfl,⟨rfl,.inl ⟨rfl,rfl⟩⟩,by simp⟩
theorem OwE.go{B:Nat}{w w':World}{v:Value}{es:List En}(h:OwE B w v es)(hs:w.heap.size<=w'.heap.size)(hb:∀j,B<=j->lst w j->w'.heap[j]?=w.heap[j]?):OwE B w' v es:=by
 obtain ⟨ps,h1,h2,h3⟩:=h
 refine ⟨ps,h1,row_stays h2 (fun g hg=>?_),fun p hp=>(h3 p hp).go hs (fun j hj ⟨cur,hc⟩=>hb j hj ⟨cur,77,hc,.inr rfl⟩)⟩
 obtain ⟨cur,hc⟩:=row_type h2 g hg
 exact hb g (h2.lt g hg).1 ⟨cur,75,hc,.inl rfl⟩
theorem OwE.stays{B:Nat}{w w':World}{v:Value}{es:List En}(h:OwE B w v es)(hb:Below w.heap.size w w'):OwE B w' v es:=
 h.go hb.size (fun j _ hj=>hb.block j hj.lt)
theorem OwE.rd{B:Nat}{w:World}{v:Value}{es:List En}(h:OwE B w v es):∃a c,v=.slice a es.length c/\RdE w a es/\es.length<=c/\c<=9223372036854775807:=by
 obtain ⟨ps,rfl,h2,h3⟩:=h
 have hpl:(ps.map (·.2)).length=ps.length:=by simp
 rw[hpl]
 rcases h2.2 with ⟨rfl,h0⟩|⟨g,cap,cur,rfl,hb,hg,k1,k2,k3,k4⟩
 ·have:ps=[]:=List.length_eq_zero_iff.1 h0
  subst this
  exact ⟨none,0,rfl,.inl rfl,by simp,by omega⟩
 ·refine ⟨_,cap,rfl,.inr ⟨g,0,rfl,(Array.getElem?_eq_some_iff.1 hg).1,fun i hi=>?_⟩,k1,by simpa only[maxLen] using k2⟩
  have hi':i<ps.length:=by simpa using hi
  have hgi:(ps.map (·.2))[i]=ps[i].2:=by simp
  have cc:∀j (hj:j<3),w.cell? ⟨g,0+(i*3+j),none⟩=(eCells ps[i].1 ps[i].2)[j]?:=fun j hj=>by
   have e1:=cellsE_at ps i hi' j hj
   have hlt:j<(eCells ps[i].1 ps[i].2).length:=hj
   rw[List.getElem?_eq_getElem hlt] at e1 ⊢
   have:=h2.cells (g:=g) rfl _ _ e1
   rw[ad_add0] at this
   exact this
  rw[hgi]
  exact ⟨ps[i].1,cc 0 (by omega),by simpa [Nat.add_assoc,eCells] using cc 1 (by omega),by simpa [Nat.add_assoc,eCells] using cc 2 (by omega),h3 ps[i] (List.getElem_mem _) w (Nat.le_refl _) (fun _ _ _=>rfl)⟩
theorem one_en(w:World)(x:Sl)(e:En):∀j u,(cellsE [(x,e)])[j]?=some u->(w.alloc (.cells #[.int .i64 e.line,.bool e.blank,.slice x.a x.n x.c] 75)).cell? ((⟨w.heap.size,0,none⟩:Addr).add j)=some u:=by
 intro j u hu
 rw[ad_add]
 unfold World.cell?
 rw[heap_alloc_new]
 have:cellsE [(x,e)]=[.int .i64 e.line,.bool e.blank,.slice x.a x.n x.c]:=by simp[cellsE,eCells]
 rw[this] at hu
 simpa using hu
theorem OwE.push{B:Nat}{w w3 w4:World}{v v':Value}{ps:List (Sl × En)}{x:Sl}{e:En}(h3:∀p∈ps,RfE B w p.1 p.2.ws)(hx:RfE B w x e.ws)(hl:w.ownsRow B 75 3 v ps.length (cellsE ps))(hb3:Below w.heap.size w w3)(h5:w4.ownsRow B 75 3 v' (ps.length+1) (cellsE ps++cellsE [(x,e)]))(h6:w3.grownBy w4 v.ownBlock):OwE B w4 v' (ps.map (·.2)++[e]):=by
 have hk:∀j,B<=j->(∃cur,w.heap[j]?=some (.cells cur 77 (0,0)))->w4.heap[j]?=w.heap[j]?:=by
  intro j hj ⟨cur,hc⟩
  have hlt:j<w.heap.size:=(Array.getElem?_eq_some_iff.1 hc).1
  rw[h6.block j (Nat.lt_of_lt_of_le hlt hb3.size) (fun e=>?_),hb3.block j hlt]
  obtain ⟨c2,hc2⟩:=row_type hl j e.symm
  rw[hc] at hc2;cases hc2
 have hs:w.heap.size<=w4.heap.size:=Nat.le_trans hb3.size h6.size
 refine ⟨ps++[(x,e)],by simp,?_,fun p hp=>?_⟩
 ·rw[cellsE_app,List.length_append];exact h5
 ·rcases List.mem_append.1 hp with hp|hp
  ·exact (h3 p hp).go hs hk
  ·rw[List.mem_singleton] at hp;subst hp;exact hx.go hs hk
def bI(c:UInt8):Int:=(c.toNat:Int)
theorem bI_eq(c k:UInt8):(bI c == bI k)=(c == k):=by
 unfold bI
 rw[Bool.eq_iff_iff];simp
 rw[<- UInt8.toNat_inj];omega
def isBz(z:Int):Bool:=z == 32 || z == 9 || z == 13
def endsz(z:Int):Bool:=isBz z || z == 10 || z == 59 || z == 40 || z == 41
theorem isBz_bI(c:UInt8):isBz (bI c)=isB c:=by
 unfold isBz isB
 rw[<- bI_eq c 32,<- bI_eq c 9,<- bI_eq c 13];rfl
theorem endsz_bI(c:UInt8):endsz (bI c)=endsW c:=by
 unfold endsz endsW
 rw[isBz_bI,<- bI_eq c 10,<- bI_eq c 59,<- bI_eq c 40,<- bI_eq c 41];rfl
theorem isb45(z:Int)(w:World):Calls Tryz.prog 53 #[.int .u8 z] w fun e w'=>e=.returned (.bool (isBz z))/\w'=w:=by
 go_enter Tryz.func53,Tryz.ntmps53
 go_wp2
 all_goals
  go_ret
  exact ⟨ret_bool (by simp_all [isBz]),rfl⟩
theorem ends50(z:Int)(w:World):Calls Tryz.prog 58 #[.int .u8 z] w fun e w'=>e=.returned (.bool (endsz z))/\w'=w:=by
 have K:=Lib.hid (fun w=>isb45 z w)
 go_enter Tryz.func58,Tryz.ntmps58
 go_wp2_with fail
 refine (K.out _).mono ?_
 rintro e w1 ⟨rfl,rfl⟩
 cases hb:isBz z with
 |true=>
  go_wp2
  all_goals
   go_ret
   exact ⟨ret_bool (by simp_all [endsz]),rfl⟩
 |false=>
  go_wp2
  all_goals
   go_ret
   exact ⟨ret_bool (by simp_all [endsz]),rfl⟩
theorem esc46(k:Nat)(w:World):Calls Tryz.prog 54 #[.int .u8 k] w fun e w'=>e=.returned (.bool (decide (k=2∨k=4)))/\w'=w:=by
 go_enter Tryz.func54,Tryz.ntmps54
 go_wp2
 all_goals
  go_ret
  exact ⟨ret_bool (by rw[Bool.eq_iff_iff];simp;try omega),rfl⟩
theorem clone73(s:ByteArray)(w:World)(h:s.size<=281474976710656):Calls Tryz.prog 104 #[.string s] w fun e w'=>e=.returned (.string s)/\Hid (Below w.heap.size w w'):=by
 have K:=Lib.hid (fun w=>Tryz.stringslite_Clone s w h)
 go_enter Tryz.func104,Tryz.ntmps104
 go_wp2_with fail
 refine (K.out _).mono ?_
 rintro e w1 ⟨rfl,HB⟩
 have HB1:=Lib.hid HB
 clear HB
 go_wp2_with fail
 go_ret
 exact ⟨rfl,HB1⟩
theorem cnt10_lib(l:List UInt8):Lib.countByte l 10=cnt10 l:=by
 unfold Lib.countByte
 induction l with
 |nil=>rfl
 |cons c l ih=>
  rw[List.count_cons,ih,cnt10]
  by_cases h:c=10
  ·simp[h];omega
  ·simp[h]
theorem suffix10(l:List UInt8):Lib.hasSuffix l [10]=decide (l.getLast?=some 10):=by
 unfold Lib.hasSuffix
 rw[Bool.eq_iff_iff]
 simp only[List.isSuffixOf_iff_suffix,decide_eq_true_eq]
 constructor
 ·rintro ⟨t,rfl⟩;simp
 ·intro h
  obtain ⟨t,ht⟩:=List.getLast?_eq_some_iff.1 h
  exact ⟨t,ht.symm⟩
theorem cnt10_le(l:List UInt8):cnt10 l<=l.length:=by
 induction l with
 |nil=>simp[cnt10]
 |cons c l ih=>simp[cnt10];split <;> omega
theorem lines13(s:ByteArray)(w:World)(h:s.size<=4611686018427387904):Calls Tryz.prog 84 #[.string s] w fun e w'=>e=.returned (.int .i64 (linesF s.data.toList))/\w'=w:=by
 have K30:Hid (∀w,Calls Tryz.prog 105 #[.string s,.string ⟨#[10]⟩] w fun e w'=>e=.returned (.int .i64 (cnt10 s.data.toList))/\w'=w):=fun w=>by
  have:=Tryz.strings_Count_one s 10 w
  rw[cnt10_lib] at this;exact this
 have K31:Hid (∀w,Calls Tryz.prog 106 #[.string s,.string ⟨#[10]⟩] w fun e w'=>e=.returned (.bool (decide (s.data.toList.getLast?=some 10)))/\w'=w):=fun w=>by
  have:=Tryz.strings_HasSuffix s ⟨#[10]⟩ w (by omega)
  rw[show (⟨#[10]⟩:ByteArray).data.toList=[10] from rfl,suffix10] at this;exact this
 have hc:=cnt10_le s.data.toList
 have hl:s.data.toList.length=s.size:=by simp
 rw[hl] at hc
 have HL:Hid (linesF s.data.toList=cnt10 s.data.toList+(if s.data.toList.getLast?=none∨s.data.toList.getLast?=some 10 then 0 else 1)):=rfl
 generalize cnt10 s.data.toList=C at*
 generalize linesF s.data.toList=N at*
 have HN:Hid (s.data.toList.getLast?=none↔s.size=0):=(show _↔_ from List.getLast?_eq_none_iff.trans ⟨fun e=>by rw[<- hl,e];rfl,fun e=>List.length_eq_zero_iff.1 (by rw[hl];exact e)⟩)
 by_cases h0:s.size=0
 ·have hs:s=⟨#[]⟩:=by apply ByteArray.ext;exact Array.eq_empty_of_size_eq_zero h0
  have e:=HL.out
  rw[if_pos (.inl (HN.out.2 h0))] at e
  have HE:Hid (N=C):=(by show N=C;omega)
  subst hs
  clear HL HN e
  go_enter Tryz.func84,Tryz.ntmps84
  go_wp2_with fail
  refine (K30.out _).mono ?_
  rintro e w1 ⟨rfl,rfl⟩
  go_wp2_with fail
  go_ret
  exact ⟨by rw[HE.out];rfl,rfl⟩
 ·have hne:(s.data.toList == ([]:List UInt8))=false:=by simp;intro e;apply h0;rw[<- hl,e];rfl
  have hne2:(s.toList == ([]:List UInt8))=false:=by rw[ba_toList];exact hne
  have hne3:¬ s=⟨#[]⟩:=by intro e;apply h0;rw[e];rfl
  by_cases hk:s.data.toList.getLast?=some 10
  ·have e:=HL.out
   rw[if_pos (.inr hk)] at e
   have HE:Hid (N=C):=(by show N=C;omega)
   simp only[hk,decide_true] at K31
   clear HL HN e hk
   go_enter Tryz.func84,Tryz.ntmps84
   go_wp2_with fail
   refine (K30.out _).mono ?_
   rintro e w1 ⟨rfl,rfl⟩
   go_wp2_with fail
   refine (K31.out _).mono ?_
   rintro e w1 ⟨rfl,rfl⟩
   go_wp2_with fail
   go_ret
   exact ⟨by rw[HE.out];rfl,rfl⟩
  ·have e:=HL.out
   rw[if_neg (by simp only[not_or];exact ⟨fun x=>h0 (HN.out.1 x),hk⟩)] at e
   have HE:Hid (N=C+1):=e
   simp only[hk,decide_false] at K31
   clear HL HN e hk
   go_enter Tryz.func84,Tryz.ntmps84
   go_wp2_with fail
   refine (K30.out _).mono ?_
   rintro e w1 ⟨rfl,rfl⟩
   go_wp2_with fail
   refine (K31.out _).mono ?_
   rintro e w1 ⟨rfl,rfl⟩
   go_wp2_with fail
   go_ret
   exact ⟨by rw[HE.out];go_num,rfl⟩
def Bx(w:World)(R:Nat)(s:ByteArray)(ln op st:Nat)(el:Int)(bl:Bool)(wv ev:Value):Prop:=
 w.heap[R]?=some (.cells #[.string s,.int .i64 ln,.int .i64 op,.int .i64 st,.int .i64 el,.bool bl,wv,ev] 87 (0,0))
variable {w:World} {R:Nat} {s:ByteArray} {ln op st:Nat} {el:Int} {bl:Bool} {wv ev:Value}
theorem Bx.lt(h:Bx w R s ln op st el bl wv ev):R<w.heap.size:=(Array.getElem?_eq_some_iff.1 h).1
theorem Bx.c0(h:Bx w R s ln op st el bl wv ev):w.cell? ⟨R,0,none⟩=some (.string s):=by unfold Bx at h;simp[World.cell?,h]
theorem Bx.c1(h:Bx w R s ln op st el bl wv ev):w.cell? ⟨R,1,none⟩=some (.int .i64 ln):=by unfold Bx at h;simp[World.cell?,h]
theorem Bx.c2(h:Bx w R s ln op st el bl wv ev):w.cell? ⟨R,2,none⟩=some (.int .i64 op):=by unfold Bx at h;simp[World.cell?,h]
theorem Bx.c3(h:Bx w R s ln op st el bl wv ev):w.cell? ⟨R,3,none⟩=some (.int .i64 st):=by unfold Bx at h;simp[World.cell?,h]
theorem Bx.c4(h:Bx w R s ln op st el bl wv ev):w.cell? ⟨R,4,none⟩=some (.int .i64 el):=by unfold Bx at h;simp[World.cell?,h]
theorem Bx.c5(h:Bx w R s ln op st el bl wv ev):w.cell? ⟨R,5,none⟩=some (.bool bl):=by unfold Bx at h;simp[World.cell?,h]
theorem Bx.c6(h:Bx w R s ln op st el bl wv ev):w.cell? ⟨R,6,none⟩=some wv:=by unfold Bx at h;simp[World.cell?,h]
theorem Bx.c7(h:Bx w R s ln op st el bl wv ev):w.cell? ⟨R,7,none⟩=some ev:=by unfold Bx at h;simp[World.cell?,h]
theorem Bx.fz(h:Bx w R s ln op st el bl wv ev)(i:Nat):w.frozen? ⟨R,i,none⟩=false:=by unfold Bx at h;simp[World.frozen?,h]
theorem Bx.same{w':World}(h:Bx w R s ln op st el bl wv ev)(hb:w'.heap[R]?=w.heap[R]?):Bx w' R s ln op st el bl wv ev:=hb.trans h
theorem Bx.not_lst(h:Bx w R s ln op st el bl wv ev):¬ lst w R:=by
 rintro ⟨cur,t,h1,h2⟩
 unfold Bx at h
 rw[h] at h1
 cases h1
 simp at h2
theorem Bx.p1(h:Bx w R s ln op st el bl wv ev)(n:Nat):Bx (w.setCell ⟨R,1,none⟩ (.int .i64 n)) R s n op st el bl wv ev:=by
 have:=heap_set h 1 (.int .i64 n);simpa [Bx] using this
theorem Bx.p2(h:Bx w R s ln op st el bl wv ev)(n:Nat):Bx (w.setCell ⟨R,2,none⟩ (.int .i64 n)) R s ln n st el bl wv ev:=by
 have:=heap_set h 2 (.int .i64 n);simpa [Bx] using this
theorem Bx.p3(h:Bx w R s ln op st el bl wv ev)(n:Nat):Bx (w.setCell ⟨R,3,none⟩ (.int .i64 n)) R s ln op n el bl wv ev:=by
 have:=heap_set h 3 (.int .i64 n);simpa [Bx] using this
theorem Bx.p4(h:Bx w R s ln op st el bl wv ev)(n:Int):Bx (w.setCell ⟨R,4,none⟩ (.int .i64 n)) R s ln op st n bl wv ev:=by
 have:=heap_set h 4 (.int .i64 n);simpa [Bx] using this
theorem Bx.p5(h:Bx w R s ln op st el bl wv ev)(b:Bool):Bx (w.setCell ⟨R,5,none⟩ (.bool b)) R s ln op st el b wv ev:=by
 have:=heap_set h 5 (.bool b);simpa [Bx] using this
theorem Bx.p6(h:Bx w R s ln op st el bl wv ev)(v:Value):Bx (w.setCell ⟨R,6,none⟩ v) R s ln op st el bl v ev:=by
 have:=heap_set h 6 v;simpa [Bx] using this
theorem Bx.p7(h:Bx w R s ln op st el bl wv ev)(v:Value):Bx (w.setCell ⟨R,7,none⟩ v) R s ln op st el bl wv v:=by
 have:=heap_set h 7 v;simpa [Bx] using this
theorem set_size(w:World)(a:Addr)(v:Value):(w.setCell a v).heap.size=w.heap.size:=by simp
def Since(B:Nat)(wS w:World):Prop:=B<=wS.heap.size/\wS.heap.size<=w.heap.size/\∀j,B<=j->lst wS j->w.heap[j]?=wS.heap[j]?
theorem Since.refl{B:Nat}{w:World}(h:B<=w.heap.size):Since B w w:=⟨h,Nat.le_refl _,fun _ _ _=>rfl⟩
theorem Since.set{B:Nat}{wS w:World}(h:Since B wS w){R:Nat}(hR:¬ lst w R)(i:Nat)(u:Value):Since B wS (w.setCell ⟨R,i,none⟩ u):=by
 refine ⟨h.1,by rw[set_size];exact h.2.1,fun j h1 h2=>?_⟩
 have e:=h.2.2 j h1 h2
 rw[Below.heap_setCell _ _ _ _ (fun x=>?_),e]
 simp only at x;subst x
 obtain ⟨cur,t,a,b⟩:=h2
 exact hR ⟨cur,t,e.trans a,b⟩
theorem Since.below{B:Nat}{wS w w':World}(h:Since B wS w)(hb:Below w.heap.size w w'):Since B wS w':=
 ⟨h.1,Nat.le_trans h.2.1 hb.size,fun j h1 h2=>by
  rw[hb.block j (Nat.lt_of_lt_of_le h2.lt h.2.1)];exact h.2.2 j h1 h2⟩
theorem Since.grown{B:Nat}{wS w w':World}{g:Option Nat}(h:Since B wS w)(hb:w.grownBy w' g)(hg:∀k,g=some k->wS.heap.size<=k):Since B wS w':=
 ⟨h.1,Nat.le_trans h.2.1 hb.size,fun j h1 h2=>by
  rw[hb.block j (Nat.lt_of_lt_of_le h2.lt h.2.1) (fun e=>by have:=hg j e.symm;have:=h2.lt;omega)];exact h.2.2 j h1 h2⟩
theorem Since.own{B:Nat}{wS w:World}(h:Since B wS w){v:Value}{es:List En}(ho:OwE B wS v es):OwE B w v es:=ho.go h.2.1 h.2.2
theorem row_set57{B e k n R:Nat}{v:Value}{xs:List Value}{w:World}(h:w.ownsRow B e k v n xs)(he:e=75∨e=77)(hR:¬ lst w R)(i:Nat)(u:Value):(w.setCell ⟨R,i,none⟩ u).ownsRow B e k v n xs:=
 row_stays h (fun g hg=>Below.heap_setCell _ _ _ _ (fun x=>by
  simp only at x;subst x
  obtain ⟨cur,hc⟩:=row_type h g hg
  exact hR ⟨cur,e,hc,he⟩))
structure Fx where
 w:World
 P:List (Nat × Int × Int)
def Fr(B:Nat)(x:Fx)(w:World):Prop:=Below B x.w w/\∀j∈x.P,w.heap[j.1]?=some (.cells #[.int .i64 j.2.1,.int .i64 j.2.2] 28 (0,0))
theorem Fr.set{B R:Nat}{x:Fx}{w:World}(h:Fr B x w)(hR:B<=R){cs:Array Value}(hb:w.heap[R]?=some (.cells cs 87 (0,0)))(i:Nat)(u:Value):Fr B x (w.setCell ⟨R,i,none⟩ u):=by
 refine ⟨h.1.setCell (p:=⟨R,i,none⟩) hR _,fun j hj=>?_⟩
 have e:=h.2 j hj
 rw[Below.heap_setCell _ _ _ _ (fun y=>?_),e]
 simp only at y;rw[y,hb] at e;cases e
theorem Fr.go{B:Nat}{x:Fx}{w w':World}(h:Fr B x w)(hb:Below w.heap.size w w')(hB:B<=w.heap.size):Fr B x w':=
 ⟨h.1.trans (hb.mono hB),fun j hj=>by
  have e:=h.2 j hj
  rw[hb.block j.1 (Array.getElem?_eq_some_iff.1 e).1];exact e⟩
theorem Fr.grown{B:Nat}{x:Fx}{w w':World}{g:Option Nat}(h:Fr B x w)(hg:w.grownBy w' g)(hB:B<=w.heap.size)(hk:∀k,g=some k->B<=k/\lst w k):Fr B x w':=
 ⟨h.1.grown hg hB (fun k e=>(hk k e).1),fun j hj=>by
  have e:=h.2 j hj
  rw[hg.block j.1 (Array.getElem?_eq_some_iff.1 e).1 (fun y=>?_)]
  ·exact e
  ·obtain ⟨cur,t,h1,h2⟩:=(hk j.1 y.symm).2
   rw[e] at h1;cases h1;simp at h2⟩
structure RSZ(B R:Nat)(w0:Fx)(w:World)(s:ByteArray)(q:Cf)(start:Nat)(wv ev:Value)(wS:World):Prop where
 bx:Bx w R s q.line q.op start q.el q.bl wv ev
 ow:OwE B wS ev q.es
 si:Since B wS w
 wo:w.ownsRow wS.heap.size 77 2 wv q.ws.length (cellsWZ q.ws)
 br:B<=R
 bl:Fr B w0 w
structure RC(B R:Nat)(w0:Fx)(w:World)(s:ByteArray)(q:Cf)(start:Nat)(wv ev:Value):Prop where
 bx:Bx w R s q.line q.op start q.el q.bl wv ev
 ow:OwE B w ev q.es
 br:B<=R
 bl:Fr B w0 w
theorem RSZ.rc{B R:Nat}{w0:Fx}{w:World}{s:ByteArray}{q:Cf}{start:Nat}{wv ev:Value}{wS:World}(h:RSZ B R w0 w s q start wv ev wS):RC B R w0 w s q start wv ev:=⟨h.bx,h.si.own h.ow,h.br,h.bl⟩
theorem headB_drop(s:ByteArray)(p:Nat)(h:p<s.size):headB (s.data.toList.drop p)=isB s[p]:=by
 rw[List.drop_eq_getElem_cons (by simpa using h)]
 rfl
theorem headB_none(s:ByteArray)(p:Nat)(h:¬ p<s.size):headB (s.data.toList.drop p)=false:=by
 rw[List.drop_of_length_le (by simp;omega)];rfl
theorem RC.begun{B R:Nat}{w0:Fx}{w:World}{s:ByteArray}{q:Cf}{start:Nat}{wv ev:Value}(h:RC B R w0 w s q start wv ev)(r:List UInt8)(b:Bool)(hb:headB r=b) :
  RSZ B R w0 (((w.setCell ⟨R,4,none⟩ (.int .i64 0)).setCell ⟨R,5,none⟩ (.bool b)).setCell ⟨R,6,none⟩ (.slice none 0 0)) s (beginF q r) start (.slice none 0 0) ev (((w.setCell ⟨R,4,none⟩ (.int .i64 0)).setCell ⟨R,5,none⟩ (.bool b)).setCell ⟨R,6,none⟩ (.slice none 0 0)):=by
 have b1:=h.bx.p4 0
 have b2:=b1.p5 b
 have b3:=b2.p6 (.slice none 0 0)
 have hB:B<=w.heap.size:=Nat.le_of_lt (Nat.lt_of_le_of_lt h.br h.bx.lt)
 have s0:Since B w w:=Since.refl hB
 have s3:=((s0.set h.bx.not_lst 4 (.int .i64 0)).set b1.not_lst 5 (.bool b)).set b2.not_lst 6 (.slice none 0 0)
 refine ⟨?_,s3.own h.ow,Since.refl (by simp only[set_size];exact hB),World.ownsRow_nil _ _ _ _,h.br,?_⟩
 ·simp only[beginF,hb];exact b3
 ·exact ((h.bl.set h.br h.bx 4 _).set h.br b1 5 _).set h.br b2 6 _
theorem begin28(B R:Nat)(w0:Fx)(w:World)(s:ByteArray)(q:Cf)(start:Nat)(wv ev:Value)(p:Nat)(h:RC B R w0 w s q start wv ev)(hs:s.size<=9223372036854775807) :
  Calls Tryz.prog 33 #[.pointer (some ⟨R,0,none⟩),.int .i64 p] w fun e w'=>e=.returned (.tuple #[])/\Hid (∃wS,RSZ B R w0 w' s (beginF q (s.data.toList.drop p)) start (.slice none 0 0) ev wS):=by
 have c0:=h.bx.c0
 have f4:=h.bx.fz 4
 have f5:=h.bx.fz 5
 have f6:=h.bx.fz 6
 have c4:=h.bx.c4
 have c5:=h.bx.c5
 have c6:=h.bx.c6
 have hlt:=h.bx.lt
 by_cases hp:p<s.size
 ·have hp':(p:Int)<(s.size:Int):=by omega
  have K:=Lib.hid (fun w=>isb45 ((s[p].toNat:Nat):Int) w)
  have HF:=Lib.hid (h.begun (s.data.toList.drop p) (isBz ((s[p].toNat:Nat):Int)) (by rw[headB_drop s p hp];exact (isBz_bI _).symm))
  clear h
  go_enter Tryz.func33,Tryz.ntmps33
  go_wp2_with fail
  refine (K.out _).mono ?_
  rintro e w1 ⟨rfl,rfl⟩
  generalize isBz ((s[p].toNat:Nat):Int)=b at*
  go_wp2_with fail
  go_end0
  exact ⟨rfl,_,HF.out⟩
 ·have hp':¬ (p:Int)<(s.size:Int):=by omega
  have HF:=Lib.hid (h.begun (s.data.toList.drop p) false (headB_none s p hp))
  clear h
  go_enter Tryz.func33,Tryz.ntmps33
  go_wp2_with fail
  go_end0
  exact ⟨rfl,_,HF.out⟩
theorem al_below(w:World)(o:Obj):Below w.heap.size w (w.alloc o):=(Below.refl _ _).alloc (Nat.le_refl _) _
theorem close65(B R:Nat)(w0:Fx)(w:World)(s:ByteArray)(q:Cf)(start:Nat)(wv ev:Value)(wS:World)(h:RSZ B R w0 w s q start wv ev wS)(he:q.es.length<=1000000) :
  Calls Tryz.prog 83 #[.pointer (some ⟨R,0,none⟩)] w fun e w'=>e=.returned (.tuple #[])/\Hid (∃wv' ev',RC B R w0 w' s (closeF q) start wv' ev'):=by
 obtain ⟨x,rfl,hx⟩:=RfE.of h.wo
 obtain ⟨y,hy,hW⟩:=row_wrd h.wo
 have hxy:x=y:=by cases x;cases y;simp only[Value.slice.injEq] at hy;obtain ⟨rfl,rfl,rfl⟩:=hy;rfl
 subst hxy
 have hn:=hW.1
 have c6:=h.bx.c6
 by_cases h0:q.ws.length=0
 ·have HR:Hid (∃wv' ev',RC B R w0 w s (closeF q) start wv' ev'):=by
   have hr:=h.rc
   have e:closeF q=q:=by
    have:q.ws=[]:=List.length_eq_zero_iff.1 h0
    cases q;simp_all [closeF]
   rw[e];exact ⟨_,_,hr⟩
  have hn0:x.n=0:=by omega
  rw[hn0] at c6
  clear h hx hW hy hn hn0
  go_enter Tryz.func83,Tryz.ntmps83
  go_wp2_with fail
  go_end0
  exact ⟨rfl,HR⟩
 ·have hpos:(0:Int)<(x.n:Int):=by omega
  have hne:q.ws.isEmpty=false:=by cases hq:q.ws with|nil=>simp[hq] at h0|cons=>rfl
  have HO:Hid (OwE B w ev q.es):=h.si.own h.ow
  obtain ⟨ps,hp1,hp2,hp3⟩:=HO.out
  have hpl:ps.length<=1000000:=by have:=congrArg List.length hp1;simp at this;omega
  have hX:RfE B w x q.ws:=fun w' hs hb=>hx w' hs (fun j hj=>hb j (by have:=h.si.1;omega))
  obtain ⟨i25,hi,hz0,hz1,hz2⟩:=inf25
  have HI:Hid (Tryz.prog.info? 75=some i25/\i25.zero=some (.agg #[.int .i64 0,.bool false,.slice none 0 0])/\i25.size=3/\i25.bytes=40):=⟨hi,hz0,hz1,hz2⟩
  have HP:Hid (w.ownsRow B 75 3 ev ps.length (cellsE ps)/\∀p∈ps,RfE B w p.1 p.2.ws):=⟨hp2,hp3⟩
  have HX:=Lib.hid hX
  have HE:=Lib.hid hp1
  have c4:=h.bx.c4
  have c5:=h.bx.c5
  have c7:=h.bx.c7
  have f7:=h.bx.fz 7
  have hlt:=h.bx.lt
  have HBX:=Lib.hid h.bx
  have hBs:B<=w.heap.size:=by have:=h.br;omega
  have HBR:=Lib.hid h.br
  have HBL:=Lib.hid h.bl
  have HFIN:Hid (∀(w4:World) (g cap:Nat),w4.ownsRow B 75 3 (.slice (some ⟨g,0,none⟩) (ps.length+1) cap) (ps.length+1) (cellsE ps++cellsE [(x,⟨q.el,q.bl,q.ws⟩)])->(w.drew.alloc (.cells #[.int .i64 q.el,.bool q.bl,.slice x.a x.n x.c] 75)).grownBy w4 ev.ownBlock->Bx w4 R s q.line q.op start q.el q.bl (.slice x.a x.n x.c) ev/\RC B R w0 (w4.setCell ⟨R,7,none⟩ (.slice (some ⟨g,0,none⟩) (ps.length+1) cap)) s (closeF q) start (.slice x.a x.n x.c) (.slice (some ⟨g,0,none⟩) (ps.length+1) cap)):=by
   intro w4 g cap h5 h6
   have hb0:Below w.heap.size w (w.drew.alloc (.cells #[.int .i64 q.el,.bool q.bl,.slice x.a x.n x.c] 75)):=((Below.refl _ _).drew).alloc (Nat.le_refl _) _
   have hpu:=OwE.push (e:=⟨q.el,q.bl,q.ws⟩) HP.out.2 HX.out HP.out.1 hb0 h5 h6
   have hne2:some R≠ev.ownBlock:=fun e=>by
    obtain ⟨cur,hc⟩:=row_type HP.out.1 R e.symm
    exact HBX.out.not_lst ⟨cur,75,hc,.inl rfl⟩
   have hbx4:Bx w4 R s q.line q.op start q.el q.bl (.slice x.a x.n x.c) ev:=HBX.out.same (by rw[h6.block R (Nat.lt_of_lt_of_le hlt hb0.size) hne2,hb0.block R hlt])
   refine ⟨hbx4,?_,?_,HBR.out,?_⟩
   ·have:=hbx4.p7 (.slice (some ⟨g,0,none⟩) (ps.length+1) cap)
    simpa [closeF] using this
   ·have e:(closeF q).es=ps.map (·.2)++[⟨q.el,q.bl,q.ws⟩]:=by simp[closeF,hne,HE.out]
    rw[e]
    refine hpu.go (by rw[set_size];exact Nat.le_refl _) (fun j hj hl=>Below.heap_setCell _ _ _ _ (fun e=>?_))
    simp only at e;subst e
    exact hbx4.not_lst hl
   ·refine Fr.set ?_ HBR.out hbx4 7 _
    exact (HBL.out.go hb0 hBs).grown h6 (Nat.le_trans hBs hb0.size) (fun k e=>⟨(HP.out.1.lt k e).1,by
     obtain ⟨cur,hc⟩:=row_type HP.out.1 k e
     exact ⟨cur,75,(hb0.block k (HP.out.1.lt k e).2).trans hc,.inl rfl⟩⟩)
  have n4:(w.drew.alloc (.cells #[.int .i64 q.el,.bool q.bl,.slice x.a x.n x.c] 75)).cell? ⟨R,7,none⟩=some ev:=((al_below w.drew _).cell (p:=⟨R,7,none⟩) hlt).trans c7
  clear h hx hW hp1 hp2 hp3 hX hi hz0 hz1 hz2 hy h0 hn
  go_enter Tryz.func83,Tryz.ntmps83
  go_wp2_with fail
  go_region_law (first
   |(refine step_append_lies _ (by rfl) _ _ 58 (by rfl) B 75 i25 _ 3 40 Tryz.underlying58 HI.out.1 HI.out.2.1 HI.out.2.2.1 HI.out.2.2.2 rfl (by omega) ev ps.length (cellsE ps) (by rfl) ((row_stays HP.out.1 (fun g hg=>rfl):w.drew.ownsRow B 75 3 ev ps.length (cellsE ps)).alloc _) ⟨w.heap.size,0,none⟩ 1 1 (cellsE [(x,⟨q.el,q.bl,q.ws⟩)]) (by rfl) (by rfl) (one_en w.drew x ⟨q.el,q.bl,q.ws⟩) (cellsE_one _) (by omega) (by simp only[maxLen];omega) (by omega) (by simp;omega) (w.heap.size+1) (by simp) ?_;intro g cap w7 h5 h6 hat hlt7;have HF:=Lib.hid (HFIN.out w7 g cap h5 h6);have u7:w7.cell? ⟨R,7,none⟩=some ev:=HF.out.1.c7;have uz:w7.frozen? ⟨R,7,none⟩=false:=HF.out.1.fz 7;have ul:R<w7.heap.size:=HF.out.1.lt;clear h5 h6 hat)
   |fail)
  all_goals
   go_wp2_with fail
   go_end0
   exact ⟨rfl,_,_,HF.out.2⟩
def CurS(s:ByteArray)(q:Cf)(start p:Nat):Prop:=start<=p/\p<=s.size/\q.cur=(s.data.toList.take p).drop start
theorem cur_text{s:ByteArray}{q:Cf}{start p:Nat}(h:CurS s q start p):(⟨q.cur.toArray⟩:ByteArray)=s.extract start p:=by
 obtain ⟨h1,h2,h3⟩:=h
 apply ByteArray.ext
 rw[h3]
 have e:(s.extract start p).data=s.data.extract start p:=by simp[ByteArray.data_extract]
 rw[e]
 apply Array.ext'
 rw[Array.toList_extract]
 simp[List.extract,List.drop_take]
theorem RSZ.wordSet{B R:Nat}{w0:Fx}{w:World}{s:ByteArray}{q:Cf}{start:Nat}{wv ev:Value}{wS:World}(h:RSZ B R w0 w s q start wv ev wS)(z:Int):RSZ B R w0 (w.setCell ⟨R,4,none⟩ (.int .i64 z)) s { q with el:=z } start wv ev wS:=
 ⟨h.bx.p4 z,h.ow,h.si.set h.bx.not_lst 4 _,row_set57 h.wo (.inr rfl) h.bx.not_lst 4 _,h.br,h.bl.set h.br h.bx 4 _⟩
theorem RSZ.go{B R:Nat}{w0:Fx}{w w':World}{s:ByteArray}{q:Cf}{start:Nat}{wv ev:Value}{wS:World}(h:RSZ B R w0 w s q start wv ev wS)(hb:Below w.heap.size w w'):RSZ B R w0 w' s q start wv ev wS:=
 ⟨h.bx.same (hb.block R h.bx.lt),h.ow,h.si.below hb,row_stays h.wo (fun g hg=>hb.block g (h.wo.lt g hg).2),h.br,h.bl.go hb (by have:=h.br;have:=h.bx.lt;omega)⟩
theorem RSZ.pushW{B R:Nat}{w0:Fx}{w w4:World}{s:ByteArray}{q:Cf}{start:Nat}{wv ev v':Value}{wS:World}(h:RSZ B R w0 w s q start wv ev wS)(t:ByteArray)(k:Bool)(h5:w4.ownsRow wS.heap.size 77 2 v' (q.ws.length+1) (cellsWZ q.ws++cellsWZ [(t,k)]))(h6:(w.alloc (.cells #[.string t,.bool k] 77)).grownBy w4 wv.ownBlock) :
  Bx w4 R s q.line q.op start q.el q.bl wv ev/\RSZ B R w0 (w4.setCell ⟨R,6,none⟩ v') s { q with ws:=q.ws++[(t,k)] } start v' ev wS:=by
 have ha:=h.go (al_below w (.cells #[.string t,.bool k] 77))
 have hne:some R≠wv.ownBlock:=fun e=>by
  obtain ⟨cur,hc⟩:=row_type ha.wo R e.symm
  exact ha.bx.not_lst ⟨cur,77,hc,.inr rfl⟩
 have b4:Bx w4 R s q.line q.op start q.el q.bl wv ev:=ha.bx.same (h6.block R ha.bx.lt hne)
 refine ⟨b4,b4.p6 v',h.ow,(ha.si.grown h6 (fun k e=>(ha.wo.lt k e).1)).set b4.not_lst 6 _,?_,h.br,?_⟩
 ·have:w4.ownsRow wS.heap.size 77 2 v' (q.ws++[(t,k)]).length (cellsWZ (q.ws++[(t,k)])):=by
   rw[cellsW_app,List.length_append];exact h5
  exact row_set57 this (.inr rfl) b4.not_lst 6 _
 ·have hB:B<=wS.heap.size:=h.si.1
  exact (ha.bl.grown h6 (Nat.le_trans hB (ha.si.2.1)) (fun k e=>⟨Nat.le_trans hB (ha.wo.lt k e).1,by
   obtain ⟨cur,hc⟩:=row_type ha.wo k e
   exact ⟨cur,77,hc,.inr rfl⟩⟩)).set h.br b4 6 _
def KpP(B R:Nat)(w0:Fx)(s:ByteArray)(q:Cf)(start:Nat)(k:Bool)(e:Ending)(w':World):Prop:=
 ∃er:Nat,e=.returned (.int .i64 er)/\Hid ((keepF q k=none/\er=3/\∃wv ev wS,RSZ B R w0 w' s q start wv ev wS)∨(er=0/\∃q',keepF q k=some q'/\∃wv ev wS,RSZ B R w0 w' s q' start wv ev wS))
theorem keep64(B R:Nat)(w0:Fx)(w:World)(s:ByteArray)(q:Cf)(start:Nat)(wv ev:Value)(wS:World)(p:Nat)(k:Bool)(h:RSZ B R w0 w s q start wv ev wS)(hw:q.ws.length<=64)(hc:CurS s q start p)(hs:s.size<=1000000) :
  Calls Tryz.prog 82 #[.pointer (some ⟨R,0,none⟩),.int .i64 p,.bool k] w (KpP B R w0 s q start k):=by
 obtain ⟨⟨xa,xn,xc⟩,rfl,hW⟩:=row_wrd h.wo
 have hn:=hW.1
 simp only at hn h
 subst hn
 have c6:=h.bx.c6
 by_cases h64:q.ws.length=64
 ·have HR:=Lib.hid h
  have HK:Hid (keepF q k=none):=(by show keepF q k=none;simp[keepF,h64])
  rw[h64] at c6
  clear h hW hc
  go_enter Tryz.func82,Tryz.ntmps82
  go_wp2_with fail
  go_ret
  exact ⟨3,rfl,.inl ⟨HK.out,rfl,_,_,_,HR.out⟩⟩
 ·have HK:Hid (keepF q k=some { q with el:=if q.ws.isEmpty then q.line else q.el,ws:=q.ws++[(s.extract start p,k)] }):=(by
   show keepF q k=_
   simp only[keepF,if_neg h64,addW,cur_text hc])
  have hst:start<=p:=hc.1
  have hps:p<=s.size:=hc.2.1
  have hst':(start:Int)<=(p:Int):=by omega
  have hps':(p:Int)<=(s.size:Int):=by omega
  have K73:Hid (∀w,Calls Tryz.prog 104 #[.string (s.extract start p)] w fun e w'=>e=.returned (.string (s.extract start p))/\Hid (Below w.heap.size w w')):=fun w=>clone73 _ w (by simp;omega)
  obtain ⟨i27,hi,hz0,hz1,hz2⟩:=inf27
  have HI:Hid (Tryz.prog.info? 77=some i27/\i27.zero=some (.agg #[.string ⟨#[]⟩,.bool false])/\i27.size=2/\i27.bytes=24):=⟨hi,hz0,hz1,hz2⟩
  have hn64:¬ (q.ws.length:Int)=64:=by omega
  have hn64b:((q.ws.length:Int) == 64)=false:=by simpa using hn64
  have hx64:q.ws.length<64:=by omega
  clear hi hz0 hz1 hz2 hW hc h64 hw
  -- what stands behind the first two lines
  have REST:∀(W:World) (q1:Cf),q1.ws=q.ws->RSZ B R w0 W s q1 start (.slice xa q.ws.length xc) ev wS->∀(W2:World),Below W.heap.size W W2->∀(w4:World) (v':Value),w4.ownsRow wS.heap.size 77 2 v' (q.ws.length+1) (cellsWZ q.ws++cellsWZ [(s.extract start p,k)])->(W2.alloc (.cells #[.string (s.extract start p),.bool k] 77)).grownBy w4 (Value.slice xa q.ws.length xc).ownBlock->Bx w4 R s q1.line q1.op start q1.el q1.bl (.slice xa q.ws.length xc) ev/\RSZ B R w0 (w4.setCell ⟨R,6,none⟩ v') s { q1 with ws:=q.ws++[(s.extract start p,k)] } start v' ev wS:=by
   intro W q1 e1 hW W2 hb w4 v' h5 h6
   have:=(hW.go hb).pushW (s.extract start p) k (w4:=w4) (v':=v') (by rw[e1];exact h5) h6
   rw[e1] at this
   exact this
  have HREST:=Lib.hid REST
  clear REST
  have hB:wS.heap.size<=w.heap.size:=h.si.2.1
  by_cases h0:q.ws=[]
  ·have hx0:q.ws.length=0:=by rw[h0];rfl
   have HZ:=Lib.hid h0
   have HZL:=Lib.hid hx0
   rw[hx0] at h c6 HREST
   have HW:=Lib.hid (h.wordSet (q.line:Int))
   have c1:=h.bx.c1
   have c4:=h.bx.c4
   have f4:=h.bx.fz 4
   have hlt:=h.bx.lt
   have d0:=HW.out.bx.c0
   have d3:=HW.out.bx.c3
   have hla:=HW.out.bx.lt
   have HE0:Hid (Below (w.setCell ⟨R,4,none⟩ (.int .i64 (q.line:Int))).heap.size (w.setCell ⟨R,4,none⟩ (.int .i64 (q.line:Int))) (w.setCell ⟨R,4,none⟩ (.int .i64 (q.line:Int))).drew):=((Below.refl _ _).drew)
   clear h h0
   clear hx0 hn64 hn64b hx64
   go_enter Tryz.func82,Tryz.ntmps82
   go_wp2_with fail
   generalize w.setCell ⟨R,4,none⟩ (.int .i64 (q.line:Int))=wa at*
   go_region_held3 (fun W=>W.cell? ⟨R,0,none⟩=some (.string s)/\W.cell? ⟨R,3,none⟩=some (.int .i64 start)) (first|exact ⟨d0,d3⟩|exact ⟨(HB1.out.cell (p:=⟨R,0,none⟩) hla).trans d0,(HB1.out.cell (p:=⟨R,3,none⟩) hla).trans d3⟩) (first
    |(go_simp;go_at_call 104;refine (K73.out _).mono ?_;rintro e w1 ⟨rfl,HB1⟩)
    |fail)
   all_goals
    have HB2:Hid (Below wa.heap.size wa w1):=HE0.out.trans HB1.out
    have HW1:=Lib.hid (HW.out.go HB2.out)
    have g6:=HW1.out.bx.c6
    have HO:=Lib.hid (HW1.out.wo.alloc (.cells #[.string (s.extract start p),.bool k] 77))
    have hB1:wS.heap.size<=w1.heap.size:=HW1.out.si.2.1
    have HN1:=Lib.hid (one_termw w1 (s.extract start p) k)
    clear HB1
    go_wp2_with (at_builtin;go_loud (refine wpList_append_own _ rfl _ _ 73 rfl wS.heap.size 77 i27 _ 2 24 Tryz.underlying73 HI.out.1 HI.out.2.1 HI.out.2.2.1 HI.out.2.2.2 rfl (by omega) _ 0 (cellsWZ q.ws) rfl (by have t:=HO.out;rw[show ({ q with el:=(q.line:Int) }:Cf).ws.length=0 from HZL.out] at t;exact t) ⟨w1.heap.size,0,none⟩ 1 1 (cellsWZ [(s.extract start p,k)]) rfl rfl HN1.out (cellsW_one _) (by simp only[maxLen];omega) (by omega) (by simp;omega) ?_);intro v' w4 h5 h6 h7;obtain ⟨g',cap',rfl,_,_⟩:=h5.form (by omega);have HF:=Lib.hid (HREST.out wa { q with el:=(q.line:Int) } rfl HW.out w1 HB2.out w4 _ h5 h6);have k6:=HF.out.1.c6;have kz:=HF.out.1.fz 6;have kl:=HF.out.1.lt;clear h5 h6 h7)
    go_ret
    have he:q.ws.isEmpty=true:=by rw[HZ.out];rfl
    simp only[he,if_true] at HK
    exact ⟨0,rfl,.inr ⟨rfl,_,HK.out,_,_,_,HF.out.2⟩⟩
  ·have HNE:=Lib.hid h0
   have hx0:¬ (q.ws.length:Int)=0:=by
    have:q.ws.length≠0:=fun e=>h0 (List.length_eq_zero_iff.1 e)
    omega
   have hx0b:((q.ws.length:Int) == 0)=false:=by simpa using hx0
   have HW:=Lib.hid h
   have d0:=h.bx.c0
   have d3:=h.bx.c3
   have hla:=h.bx.lt
   have HE0:Hid (Below w.heap.size w w.drew):=((Below.refl _ _).drew)
   clear h h0
   go_enter Tryz.func82,Tryz.ntmps82
   go_wp2_with fail
   go_region_held3 (fun W=>W.cell? ⟨R,0,none⟩=some (.string s)/\W.cell? ⟨R,3,none⟩=some (.int .i64 start)) (first|exact ⟨d0,d3⟩|exact ⟨(HB1.out.cell (p:=⟨R,0,none⟩) hla).trans d0,(HB1.out.cell (p:=⟨R,3,none⟩) hla).trans d3⟩) (first
    |(go_simp;go_at_call 104;refine (K73.out _).mono ?_;rintro e w1 ⟨rfl,HB1⟩)
    |fail)
   all_goals
    have HB2:Hid (Below w.heap.size w w1):=HE0.out.trans HB1.out
    have HW1:=Lib.hid (HW.out.go HB2.out)
    have g6:=HW1.out.bx.c6
    have HO:=Lib.hid (HW1.out.wo.alloc (.cells #[.string (s.extract start p),.bool k] 77))
    have hB1:wS.heap.size<=w1.heap.size:=HW1.out.si.2.1
    have HN1:=Lib.hid (one_termw w1 (s.extract start p) k)
    clear HB1
    go_wp2_with (at_builtin;go_loud (refine wpList_append_own _ rfl _ _ 73 rfl wS.heap.size 77 i27 _ 2 24 Tryz.underlying73 HI.out.1 HI.out.2.1 HI.out.2.2.1 HI.out.2.2.2 rfl (by omega) _ q.ws.length (cellsWZ q.ws) rfl HO.out ⟨w1.heap.size,0,none⟩ 1 1 (cellsWZ [(s.extract start p,k)]) rfl rfl HN1.out (cellsW_one _) (by simp only[maxLen];omega) (by omega) (by simp;omega) ?_);intro v' w4 h5 h6 h7;obtain ⟨g',cap',rfl,_,_⟩:=h5.form (by omega);have HF:=Lib.hid (HREST.out w q rfl HW.out w1 HB2.out w4 _ h5 h6);have k6:=HF.out.1.c6;have kz:=HF.out.1.fz 6;have kl:=HF.out.1.lt;clear h5 h6 h7)
    go_ret
    have he:q.ws.isEmpty=false:=by
     cases hq:q.ws with
     |nil=>exact absurd hq HNE.out
     |cons=>rfl
    simp only[he,Bool.false_eq_true,if_false] at HK
    exact ⟨0,rfl,.inr ⟨rfl,_,HK.out,_,_,_,HF.out.2⟩⟩
def StQ(B R:Nat)(w0:Fx)(s:ByteArray)(p:Nat)(ln:Nat)(k er:Nat)(w':World):Rs->Prop
 | .ok q'=>k=q'.st/\er=0/\∃start wv ev wS,RSZ B R w0 w' s q' start wv ev wS/\((q'.st=1∨q'.st=2∨q'.st=3∨q'.st=4)->CurS s q' start (p+1))
 | .er n=>er=n/\∃q' start wv ev wS,q'.line=ln/\RSZ B R w0 w' s q' start wv ev wS
def StP(B R:Nat)(w0:Fx)(s:ByteArray)(p:Nat)(ln:Nat)(r:Rs)(e:Ending)(w':World):Prop:=
 ∃k er:Nat,e=.returned (.tuple #[.int .u8 k,.int .i64 er])/\Hid (StQ B R w0 s p ln k er w' r)
theorem RSZ.setQ{B R:Nat}{w0:Fx}{w:World}{s:ByteArray}{q:Cf}{start:Nat}{wv ev:Value}{wS:World}(h:RSZ B R w0 w s q start wv ev wS)(k:Nat)(c:List UInt8):RSZ B R w0 w s { q with st:=k,cur:=c } start wv ev wS:=⟨h.bx,h.ow,h.si,h.wo,h.br,h.bl⟩
theorem RSZ.setOp{B R:Nat}{w0:Fx}{w:World}{s:ByteArray}{q:Cf}{start:Nat}{wv ev:Value}{wS:World}(h:RSZ B R w0 w s q start wv ev wS)(k o:Nat):RSZ B R w0 (w.setCell ⟨R,2,none⟩ (.int .i64 o)) s { q with st:=k,op:=o } start wv ev wS:=
 ⟨h.bx.p2 o,h.ow,h.si.set h.bx.not_lst 2 _,row_set57 h.wo (.inr rfl) h.bx.not_lst 2 _,h.br,h.bl.set h.br h.bx 2 _⟩
theorem RSZ.setLine{B R:Nat}{w0:Fx}{w:World}{s:ByteArray}{q:Cf}{start:Nat}{wv ev:Value}{wS:World}(h:RSZ B R w0 w s q start wv ev wS)(k o:Nat):RSZ B R w0 (w.setCell ⟨R,1,none⟩ (.int .i64 o)) s { q with st:=k,line:=o } start wv ev wS:=
 ⟨h.bx.p1 o,h.ow,h.si.set h.bx.not_lst 1 _,row_set57 h.wo (.inr rfl) h.bx.not_lst 1 _,h.br,h.bl.set h.br h.bx 1 _⟩
theorem RSZ.setStart{B R:Nat}{w0:Fx}{w:World}{s:ByteArray}{q:Cf}{start:Nat}{wv ev:Value}{wS:World}(h:RSZ B R w0 w s q start wv ev wS)(k:Nat)(c:List UInt8)(o:Nat):RSZ B R w0 (w.setCell ⟨R,3,none⟩ (.int .i64 o)) s { q with st:=k,cur:=c } o wv ev wS:=
 ⟨h.bx.p3 o,h.ow,h.si.set h.bx.not_lst 3 _,row_set57 h.wo (.inr rfl) h.bx.not_lst 3 _,h.br,h.bl.set h.br h.bx 3 _⟩
theorem bz(c:UInt8)(k:UInt8)(h:c=k):((c.toNat:Nat):Int)=((k.toNat:Nat):Int):=by rw[h]
theorem nbz(c:UInt8)(k:UInt8)(h:¬ c=k):(((c.toNat:Nat):Int) == ((k.toNat:Nat):Int))=false:=by
 have:=bI_eq c k
 unfold bI at this
 rw[this];simpa using h
theorem outside51(B R:Nat)(w0:Fx)(w:World)(s:ByteArray)(q:Cf)(start:Nat)(wv ev:Value)(wS:World)(p:Nat)(h:RSZ B R w0 w s q start wv ev wS)(hp:p<s.size)(hs:s.size<=1000000)(hl:q.line<=1000000)(ho:q.op<=1000000)(he:q.es.length<=1000000) :
  Calls Tryz.prog 59 #[.pointer (some ⟨R,0,none⟩),.int .i64 p] w (StP B R w0 s p q.line (outR q s[p] (s.data.toList.drop (p+1)))):=by
 have c0:=h.bx.c0
 have c1:=h.bx.c1
 have c2:=h.bx.c2
 have f1:=h.bx.fz 1
 have f2:=h.bx.fz 2
 have hlt:=h.bx.lt
 have hp':(p:Int)<(s.size:Int):=by omega
 have n59:=nbz s[p] 59
 have n40:=nbz s[p] 40
 have n41:=nbz s[p] 41
 have n10:=nbz s[p] 10
 simp only[show ((59:UInt8).toNat:Int)=59 from rfl,show ((40:UInt8).toNat:Int)=40 from rfl,show ((41:UInt8).toNat:Int)=41 from rfl,show ((10:UInt8).toNat:Int)=10 from rfl] at n59 n40 n41 n10
 have HR:=Lib.hid h
 by_cases h59:s[p]=59
 ·have e:=bz s[p] 59 h59
  have HX:Hid (outR q s[p] (s.data.toList.drop (p+1))=.ok { q with st:=6 }):=(by show _=_;simp[outR,outF,h59])
  rw[HX.out]
  have e':((s[p].toNat:Nat):Int)=59:=e
  clear h n59 n40 n41 n10 h59 e HX
  go_enter Tryz.func59,Tryz.ntmps59
  go_wp2_with fail
  go_ret2
  exact ⟨6,0,rfl,rfl,rfl,_,_,_,_,HR.out.setQ 6 q.cur,by simp⟩
 ·by_cases h40:s[p]=40
  ·have e':((s[p].toNat:Nat):Int)=40:=bz s[p] 40 h40
   have HX:Hid (outR q s[p] (s.data.toList.drop (p+1))=.ok { q with st:=0,op:=q.op+1 }):=(by show _=_;simp[outR,outF,h40])
   rw[HX.out]
   have HO:=Lib.hid (h.setOp 0 (q.op+1))
   clear h n59 n40 n41 n10 h40 h59 HX
   go_enter Tryz.func59,Tryz.ntmps59
   go_wp2_with fail
   go_ret2
   exact ⟨0,0,rfl,rfl,rfl,_,_,_,_,HO.out,by simp⟩
  ·by_cases h41:s[p]=41
   ·have e':((s[p].toNat:Nat):Int)=41:=bz s[p] 41 h41
    by_cases hop:q.op=0
    ·have HX:Hid (outR q s[p] (s.data.toList.drop (p+1))=.er 230):=(by show _=_;simp[outR,outF,h41,hop])
     rw[HX.out]
     rw[hop] at c2
     clear h n59 n40 n41 n10 h41 h40 h59 HX hop
     go_enter Tryz.func59,Tryz.ntmps59
     go_wp2_with fail
     go_ret2
     exact ⟨0,230,rfl,rfl,_,_,_,_,_,rfl,HR.out⟩
    ·have HX:Hid (outR q s[p] (s.data.toList.drop (p+1))=.ok { q with st:=0,op:=q.op - 1 }):=(by show _=_;simp[outR,outF,h41,hop])
     rw[HX.out]
     have HO:=Lib.hid (h.setOp 0 (q.op - 1))
     have hop1:¬ (q.op:Int)=0:=by omega
     have hop2:((q.op:Int) == 0)=false:=by simpa using hop1
     have hz:((q.op - 1:Nat):Int)=(q.op:Int) - 1:=by omega
     rw[hz] at HO
     clear h n59 n40 n41 n10 h41 h40 h59 HX hop hz
     go_enter Tryz.func59,Tryz.ntmps59
     go_wp2_with fail
     go_ret2
     exact ⟨0,0,rfl,rfl,rfl,_,_,_,_,HO.out,by simp⟩
   ·by_cases h10:s[p]=10
    ·have e':((s[p].toNat:Nat):Int)=10:=bz s[p] 10 h10
     have HL:=Lib.hid (h.setLine 0 (q.line+1))
     have d2:=HL.out.bx.c2
     by_cases hop:q.op=0
     ·have HX:Hid (outR q s[p] (s.data.toList.drop (p+1))=.ok (beginF (closeF { q with st:=0,line:=q.line+1 }) (s.data.toList.drop (p+1)))):=(by show _=_;simp[outR,outF,h10,hop])
      rw[HX.out]
      have KC:Hid (∀W,RSZ B R w0 W s { q with st:=0,line:=q.line+1 } start wv ev wS->Calls Tryz.prog 83 #[.pointer (some ⟨R,0,none⟩)] W fun e w'=>e=.returned (.tuple #[])/\Hid (∃wv' ev',RC B R w0 w' s (closeF { q with st:=0,line:=q.line+1 }) start wv' ev')):=fun W hW=>close65 B R w0 W s _ start wv ev wS hW he
      have KB:Hid (∀W wv' ev',RC B R w0 W s (closeF { q with st:=0,line:=q.line+1 }) start wv' ev'->Calls Tryz.prog 33 #[.pointer (some ⟨R,0,none⟩),.int .i64 ((p+1:Nat):Int)] W fun e w'=>e=.returned (.tuple #[])/\Hid (∃wS,RSZ B R w0 w' s (beginF (closeF { q with st:=0,line:=q.line+1 }) (s.data.toList.drop (p+1))) start (.slice none 0 0) ev' wS)):=fun W wv' ev' hW=>begin28 B R w0 W s _ start wv' ev' (p+1) hW (by omega)
      rw[hop] at d2
      rw[show ((p+1:Nat):Int)=(p:Int)+1 by omega] at KB
      rw[show ((q.line+1:Nat):Int)=(q.line:Int)+1 by omega] at HL d2
      clear h n59 n40 n41 n10 h41 h40 h59 h10 HX hop c2
      go_enter Tryz.func59,Tryz.ntmps59
      go_wp2_with fail
      refine (KC.out _ HL.out).mono ?_
      rintro e w1 ⟨rfl,H1⟩
      obtain ⟨wv',ev',hrc⟩:=H1.out
      have H2:=Lib.hid hrc
      clear hrc H1
      go_wp2_with fail
      refine (KB.out _ _ _ H2.out).mono ?_
      rintro e w2 ⟨rfl,H3⟩
      go_wp2_with fail
      go_ret2
      obtain ⟨wS',h3⟩:=H3.out
      exact ⟨0,0,rfl,rfl,rfl,_,_,_,_,h3,by simp[beginF,closeF]⟩
     ·have HX:Hid (outR q s[p] (s.data.toList.drop (p+1))=.ok { q with st:=0,line:=q.line+1 }):=(by show _=_;simp[outR,outF,h10,hop])
      rw[HX.out]
      have hop1:¬ (q.op:Int)=0:=by omega
      have hop2:((q.op:Int) == 0)=false:=by simpa using hop1
      rw[show ((q.line+1:Nat):Int)=(q.line:Int)+1 by omega] at HL d2
      clear h n59 n40 n41 n10 h41 h40 h59 h10 HX hop
      go_enter Tryz.func59,Tryz.ntmps59
      go_wp2_with fail
      go_ret2
      exact ⟨0,0,rfl,rfl,rfl,_,_,_,_,HL.out,by simp⟩
    ·have HX:Hid (outR q s[p] (s.data.toList.drop (p+1))=.ok { q with st:=0 }):=(by show _=_;simp[outR,outF,h59,h40,h41,h10])
     rw[HX.out]
     have m59:=n59 h59
     have m40:=n40 h40
     have m41:=n41 h41
     have m10:=n10 h10
     clear h n59 n40 n41 n10 h41 h40 h59 h10 HX
     go_enter Tryz.func59,Tryz.ntmps59
     go_wp2_with fail
     go_ret2
     exact ⟨0,0,rfl,rfl,rfl,_,_,_,_,HR.out.setQ 0 q.cur,by simp⟩
theorem RSZ.setStartI{B R:Nat}{w0:Fx}{w:World}{s:ByteArray}{q:Cf}{start:Nat}{wv ev:Value}{wS:World}(h:RSZ B R w0 w s q start wv ev wS)(k:Nat)(c:List UInt8)(o:Nat)(z:Int)(hz:z=(o:Int)):RSZ B R w0 (w.setCell ⟨R,3,none⟩ (.int .i64 z)) s { q with st:=k,cur:=c } o wv ev wS:=by
 subst hz;exact h.setStart k c o
theorem take_next(s:ByteArray)(p:Nat)(h:p<s.size):s.data.toList.take (p+1)=s.data.toList.take p++[s[p]]:=by
 rw[List.take_succ_eq_append_getElem (by simpa using h)];rfl
theorem CurS.push{s:ByteArray}{q:Cf}{start p:Nat}(h:CurS s q start p)(hp:p<s.size)(k:Nat):CurS s { q with st:=k,cur:=q.cur++[s[p]] } start (p+1):=by
 obtain ⟨h1,h2,h3⟩:=h
 refine ⟨by omega,by omega,?_⟩
 simp only
 rw[take_next s p hp,List.drop_append_of_le_length (by simp;omega),h3]
theorem CurS.one{s:ByteArray}(q:Cf){p:Nat}(hp:p<s.size)(k:Nat):CurS s { q with st:=k,cur:=[s[p]] } p (p+1):=by
 refine ⟨by omega,by omega,?_⟩
 simp only
 rw[take_next s p hp,List.drop_append_of_le_length (by simp;omega),List.drop_of_length_le (by simp;omega)];rfl
theorem CurS.none{s:ByteArray}(q:Cf){p:Nat}(hp:p<s.size)(k:Nat):CurS s { q with st:=k,cur:=[] } (p+1) (p+1):=by
 refine ⟨by omega,by omega,?_⟩
 simp only
 rw[List.drop_of_length_le (by simp;omega)]
theorem first47(B R:Nat)(w0:Fx)(w:World)(s:ByteArray)(q:Cf)(start:Nat)(wv ev:Value)(wS:World)(p:Nat)(h:RSZ B R w0 w s q start wv ev wS)(hp:p<s.size)(hs:s.size<=1000000)(hl:q.line<=1000000)(ho:q.op<=1000000)(he:q.es.length<=1000000) :
  Calls Tryz.prog 55 #[.pointer (some ⟨R,0,none⟩),.int .i64 p] w (StP B R w0 s p q.line (firstF q s[p] (s.data.toList.drop (p+1)))):=by
 have c0:=h.bx.c0
 have c3:=h.bx.c3
 have f3:=h.bx.fz 3
 have hlt:=h.bx.lt
 have hp':(p:Int)<(s.size:Int):=by omega
 have K50:=Lib.hid (fun w=>ends50 ((s[p].toNat:Nat):Int) w)
 have HZ:Hid (endsz ((s[p].toNat:Nat):Int)=endsW s[p]):=endsz_bI s[p]
 rw[HZ.out] at K50
 have HR:=Lib.hid h
 cases hen:endsW s[p] with
 |true=>
  have KO:=Lib.hid (outside51 B R w0 w s q start wv ev wS p h hp hs hl ho he)
  have HX:Hid (firstF q s[p] (s.data.toList.drop (p+1))=outR q s[p] (s.data.toList.drop (p+1))):=(by show _=_;simp[firstF,hen])
  rw[HX.out]
  rw[hen] at K50
  clear h HX HZ hen
  go_enter Tryz.func55,Tryz.ntmps55
  go_wp2_with fail
  refine (K50.out _).mono ?_
  rintro e w1 ⟨rfl,rfl⟩
  go_wp2_with fail
  refine KO.out.mono ?_
  rintro e w2 ⟨k,er,rfl,H2⟩
  go_wp2_with fail
  go_ret2
  exact ⟨k,er,rfl,H2⟩
 |false=>
  rw[hen] at K50
  have HX:Hid (firstF q s[p] (s.data.toList.drop (p+1))=if s[p]=34 then .ok { q with st:=3,cur:=[] } else if s[p]=92 then .ok { q with st:=2,cur:=[s[p]] } else .ok { q with st:=1,cur:=[s[p]] }):=(by show _=_;simp[firstF,hen])
  rw[HX.out]
  have n34:=nbz s[p] 34
  have n92:=nbz s[p] 92
  simp only[show ((34:UInt8).toNat:Int)=34 from rfl,show ((92:UInt8).toNat:Int)=92 from rfl] at n34 n92
  by_cases h34:s[p]=34
  ·have e':((s[p].toNat:Nat):Int)=34:=bz s[p] 34 h34
   simp only[e'] at K50
   rw[if_pos h34]
   have HS0:=Lib.hid (h.setStart 0 q.cur p)
   have HS:=Lib.hid (HS0.out.setStartI 3 [] (p+1) ((p:Int)+1) (by omega))
   have d3:=HS0.out.bx.c3
   have g3:=HS0.out.bx.fz 3
   have HC:=Lib.hid (CurS.none (s:=s) q hp 3)
   clear h HX HZ hen n34 n92 h34
   go_enter Tryz.func55,Tryz.ntmps55
   go_wp2_with fail
   refine (K50.out _).mono ?_
   rintro e w1 ⟨rfl,rfl⟩
   go_wp2_with fail
   go_ret2
   exact ⟨3,0,rfl,rfl,rfl,_,_,_,_,HS.out,fun _=>HC.out⟩
  ·rw[if_neg h34]
   have m34:=n34 h34
   by_cases h92:s[p]=92
   ·have e':((s[p].toNat:Nat):Int)=92:=bz s[p] 92 h92
    simp only[e'] at K50
    rw[if_pos h92]
    have HS:=Lib.hid (h.setStart 2 [s[p]] p)
    have HC:=Lib.hid (CurS.one (s:=s) q hp 2)
    clear h HX HZ hen n34 n92 h34 h92 m34
    go_enter Tryz.func55,Tryz.ntmps55
    go_wp2_with fail
    refine (K50.out _).mono ?_
    rintro e w1 ⟨rfl,rfl⟩
    go_wp2_with fail
    go_ret2
    exact ⟨2,0,rfl,rfl,rfl,_,_,_,_,HS.out,fun _=>HC.out⟩
   ·rw[if_neg h92]
    have m92:=n92 h92
    have HS:=Lib.hid (h.setStart 1 [s[p]] p)
    have HC:=Lib.hid (CurS.one (s:=s) q hp 1)
    clear h HX HZ hen n34 n92 h34 h92
    go_enter Tryz.func55,Tryz.ntmps55
    go_wp2_with fail
    refine (K50.out _).mono ?_
    rintro e w1 ⟨rfl,rfl⟩
    go_wp2_with fail
    go_ret2
    exact ⟨1,0,rfl,rfl,rfl,_,_,_,_,HS.out,fun _=>HC.out⟩
theorem next48(B R:Nat)(w0:Fx)(w:World)(s:ByteArray)(q:Cf)(start:Nat)(wv ev:Value)(wS:World)(p:Nat)(h:RSZ B R w0 w s q start wv ev wS)(hc:CurS s q start p)(hp:p<s.size)(hs:s.size<=1000000)(hl:q.line<=1000000)(ho:q.op<=1000000)(he:q.es.length<=1000000)(hw:q.ws.length<=64) :
  Calls Tryz.prog 56 #[.pointer (some ⟨R,0,none⟩),.int .i64 p] w (StP B R w0 s p q.line (nextF q s[p] (s.data.toList.drop (p+1)))):=by
 have c0:=h.bx.c0
 have hlt:=h.bx.lt
 have hp':(p:Int)<(s.size:Int):=by omega
 have K50:=Lib.hid (fun w=>ends50 ((s[p].toNat:Nat):Int) w)
 have HZ:Hid (endsz ((s[p].toNat:Nat):Int)=endsW s[p]):=endsz_bI s[p]
 rw[HZ.out] at K50
 have HR:=Lib.hid h
 cases hen:endsW s[p] with
 |true=>
  have KK:=Lib.hid (keep64 B R w0 w s q start wv ev wS p false h hw hc hs)
  rw[hen] at K50
  cases hk:keepF q false with
  |none=>
   have HX:Hid (nextF q s[p] (s.data.toList.drop (p+1))=.er 3):=(by show _=_;simp[nextF,hen,hk])
   rw[HX.out]
   have HKK:=Lib.hid hk
   clear h HX HZ hen hk
   go_enter Tryz.func56,Tryz.ntmps56
   go_wp2_with fail
   refine (K50.out _).mono ?_
   rintro e w1 ⟨rfl,rfl⟩
   go_wp2_with fail
   refine KK.out.mono ?_
   rintro e w2 ⟨er,rfl,H2⟩
   rcases H2.out with ⟨k1,rfl,wv2,ev2,wS2,k3⟩|⟨rfl,q',k1,start2,wv2,ev2,k3⟩
   ·have H3:=Lib.hid k3
    clear H2 k1 k3
    go_wp2_with fail
    go_ret2
    exact ⟨0,3,rfl,rfl,_,_,_,_,_,rfl,H3.out⟩
   ·exfalso
    rw[HKK.out] at k1;cases k1
  |some q'=>
   have HX:Hid (nextF q s[p] (s.data.toList.drop (p+1))=outR q' s[p] (s.data.toList.drop (p+1))):=(by show _=_;simp[nextF,hen,hk])
   rw[HX.out]
   have HKK:=Lib.hid hk
   have KO:Hid (∀W start wv ev wS,RSZ B R w0 W s q' start wv ev wS->Calls Tryz.prog 59 #[.pointer (some ⟨R,0,none⟩),.int .i64 p] W (StP B R w0 s p q.line (outR q' s[p] (s.data.toList.drop (p+1))))):=fun W start wv ev wS hW=>by
    have h1:=keepF_es hk
    have h2:=keep_line hk
    have:=outside51 B R w0 W s q' start wv ev wS p hW hp hs (by omega) (by omega) (by rw[h1.1];exact he)
    rw[h2] at this;exact this
   clear h HX HZ hen hk
   go_enter Tryz.func56,Tryz.ntmps56
   go_wp2_with fail
   refine (K50.out _).mono ?_
   rintro e w1 ⟨rfl,rfl⟩
   go_wp2_with fail
   refine KK.out.mono ?_
   rintro e w2 ⟨er,rfl,H2⟩
   rcases H2.out with ⟨k1,rfl,wv2,ev2,wS2,k3⟩|⟨rfl,q2,k1,wv2,ev2,wS2,k3⟩
   ·exfalso
    rw[HKK.out] at k1;cases k1
   ·rw[HKK.out] at k1
    cases k1
    have KO2:=Lib.hid (KO.out w2 _ _ _ _ k3)
    clear H2 k3 KO
    go_wp2_with fail
    refine KO2.out.mono ?_
    rintro e w3 ⟨k,er,rfl,H4⟩
    go_wp2_with fail
    go_ret2
    exact ⟨k,er,rfl,H4⟩
 |false=>
  rw[hen] at K50
  have HX:Hid (nextF q s[p] (s.data.toList.drop (p+1))=if s[p]=34 then .er 230 else if s[p]=92 then .ok { q with st:=2,cur:=q.cur++[s[p]] } else .ok { q with st:=1,cur:=q.cur++[s[p]] }):=(by show _=_;simp[nextF,hen])
  rw[HX.out]
  have n34:=nbz s[p] 34
  have n92:=nbz s[p] 92
  simp only[show ((34:UInt8).toNat:Int)=34 from rfl,show ((92:UInt8).toNat:Int)=92 from rfl] at n34 n92
  by_cases h34:s[p]=34
  ·have e':((s[p].toNat:Nat):Int)=34:=bz s[p] 34 h34
   simp only[e'] at K50
   rw[if_pos h34]
   clear h HX HZ hen n34 n92 h34
   go_enter Tryz.func56,Tryz.ntmps56
   go_wp2_with fail
   refine (K50.out _).mono ?_
   rintro e w1 ⟨rfl,rfl⟩
   go_wp2_with fail
   go_ret2
   exact ⟨0,230,rfl,rfl,_,_,_,_,_,rfl,HR.out⟩
  ·rw[if_neg h34]
   have m34:=n34 h34
   by_cases h92:s[p]=92
   ·have e':((s[p].toNat:Nat):Int)=92:=bz s[p] 92 h92
    simp only[e'] at K50
    rw[if_pos h92]
    have HS:=Lib.hid (h.setQ 2 (q.cur++[s[p]]))
    have HC:=Lib.hid (hc.push hp 2)
    clear h HX HZ hen n34 n92 h34 h92 m34 hc
    go_enter Tryz.func56,Tryz.ntmps56
    go_wp2_with fail
    refine (K50.out _).mono ?_
    rintro e w1 ⟨rfl,rfl⟩
    go_wp2_with fail
    go_ret2
    exact ⟨2,0,rfl,rfl,rfl,_,_,_,_,HS.out,fun _=>HC.out⟩
   ·rw[if_neg h92]
    have m92:=n92 h92
    have HS:=Lib.hid (h.setQ 1 (q.cur++[s[p]]))
    have HC:=Lib.hid (hc.push hp 1)
    clear h HX HZ hen n34 n92 h34 h92 hc
    go_enter Tryz.func56,Tryz.ntmps56
    go_wp2_with fail
    refine (K50.out _).mono ?_
    rintro e w1 ⟨rfl,rfl⟩
    go_wp2_with fail
    go_ret2
    exact ⟨1,0,rfl,rfl,rfl,_,_,_,_,HS.out,fun _=>HC.out⟩
theorem quot49(B R:Nat)(w0:Fx)(w:World)(s:ByteArray)(q:Cf)(start:Nat)(wv ev:Value)(wS:World)(p:Nat)(h:RSZ B R w0 w s q start wv ev wS)(hc:CurS s q start p)(hp:p<s.size)(hs:s.size<=1000000)(hw:q.ws.length<=64) :
  Calls Tryz.prog 57 #[.pointer (some ⟨R,0,none⟩),.int .i64 p] w (StP B R w0 s p q.line (quotF q s[p])):=by
 have c0:=h.bx.c0
 have hlt:=h.bx.lt
 have hp':(p:Int)<(s.size:Int):=by omega
 have HR:=Lib.hid h
 have n34:=nbz s[p] 34
 have n92:=nbz s[p] 92
 simp only[show ((34:UInt8).toNat:Int)=34 from rfl,show ((92:UInt8).toNat:Int)=92 from rfl] at n34 n92
 by_cases h34:s[p]=34
 ·have e':((s[p].toNat:Nat):Int)=34:=bz s[p] 34 h34
  have KK:=Lib.hid (keep64 B R w0 w s q start wv ev wS p true h hw hc hs)
  obtain ⟨X,hX⟩:∃X,quotF q s[p]=X:=⟨_,rfl⟩
  have HX:Hid (X=match keepF q true with|none=>.er 3|some q'=>.ok { q' with st:=5 }):=(by show _=_;rw[<- hX];simp only[quotF,h34,if_true]<;>rfl)
  rw[hX]
  clear h n34 n92 h34 hX
  go_enter Tryz.func57,Tryz.ntmps57
  go_wp2_with fail
  refine KK.out.mono ?_
  rintro e w2 ⟨er,rfl,H2⟩
  have H3:Hid (StQ B R w0 s p q.line 5 er w2 X):=by
   rw[HX.out]
   rcases H2.out with ⟨k1,rfl,wv2,ev2,wS2,k3⟩|⟨rfl,q',k1,start2,wv2,ev2,k3⟩
   ·rw[k1];exact ⟨rfl,_,_,_,_,_,rfl,k3⟩
   ·rw[k1];exact ⟨rfl,rfl,_,_,_,_,k3.setQ 5 q'.cur,by simp⟩
  clear H2
  go_wp2_with fail
  go_ret2
  exact ⟨5,er,rfl,H3⟩
 ·have m34:=n34 h34
  by_cases h92:s[p]=92
  ·have e':((s[p].toNat:Nat):Int)=92:=bz s[p] 92 h92
   have HX:Hid (quotF q s[p]=.ok { q with st:=4,cur:=q.cur++[s[p]] }):=(by show _=_;simp[quotF,h34,h92])
   rw[HX.out]
   have HS:=Lib.hid (h.setQ 4 (q.cur++[s[p]]))
   have HC:=Lib.hid (hc.push hp 4)
   clear h HX n34 n92 h34 h92 hc m34
   go_enter Tryz.func57,Tryz.ntmps57
   go_wp2_with fail
   go_ret2
   exact ⟨4,0,rfl,rfl,rfl,_,_,_,_,HS.out,fun _=>HC.out⟩
  ·have m92:=n92 h92
   have HX:Hid (quotF q s[p]=.ok { q with st:=3,cur:=q.cur++[s[p]] }):=(by show _=_;simp[quotF,h34,h92])
   rw[HX.out]
   have HS:=Lib.hid (h.setQ 3 (q.cur++[s[p]]))
   have HC:=Lib.hid (hc.push hp 3)
   clear h HX n34 n92 h34 h92 hc
   go_enter Tryz.func57,Tryz.ntmps57
   go_wp2_with fail
   go_ret2
   exact ⟨3,0,rfl,rfl,rfl,_,_,_,_,HS.out,fun _=>HC.out⟩
def FnQ(B R:Nat)(w0:Fx)(s:ByteArray)(a b:Nat)(w':World):Rt->Prop
 | .er e l=>a=e/\b=l/\Fr B w0 w'
 | .ok es=>a=0/\b=0/\∃q start wv ev,q.es=es/\RC B R w0 w' s q start wv ev
def FnP(B R:Nat)(w0:Fx)(s:ByteArray)(r:Rt)(e:Ending)(w':World):Prop:=
 ∃a b:Nat,e=.returned (.agg #[.int .i64 a,.int .i64 b])/\Hid (FnQ B R w0 s a b w' r)
def Fx.put(x:Fx)(j:Nat)(a b:Int):Fx:=⟨x.w,(j,a,b)::x.P⟩
theorem Fr.put{B:Nat}{x:Fx}{w:World}(h:Fr B x w)(j:Nat)(a b:Int)(hj:w.heap[j]?=some (.cells #[.int .i64 a,.int .i64 b] 28 (0,0))):Fr B (x.put j a b) w:=by
 refine ⟨h.1,fun k hk=>?_⟩
 rcases List.mem_cons.1 hk with rfl|hk
 ·exact hj
 ·exact h.2 k hk
theorem Fr.cell{B:Nat}{x:Fx}{w:World}{j:Nat}{a b:Int}(h:Fr B (x.put j a b) w):w.heap[j]?=some (.cells #[.int .i64 a,.int .i64 b] 28 (0,0)):=h.2 (j,a,b) (by simp[Fx.put])
theorem Fr.pop{B:Nat}{x:Fx}{w:World}{j:Nat}{a b:Int}(h:Fr B (x.put j a b) w):Fr B x w:=⟨h.1,fun k hk=>h.2 k (by simp[Fx.put,hk])⟩
theorem RSZ.put{B R:Nat}{w0:Fx}{w:World}{s:ByteArray}{q:Cf}{start:Nat}{wv ev:Value}{wS:World}(h:RSZ B R w0 w s q start wv ev wS)(j:Nat)(a b:Int)(hj:w.heap[j]?=some (.cells #[.int .i64 a,.int .i64 b] 28 (0,0))):RSZ B R (w0.put j a b) w s q start wv ev wS:=⟨h.bx,h.ow,h.si,h.wo,h.br,h.bl.put j a b hj⟩
theorem RC.pop{B R:Nat}{w0:Fx}{w:World}{s:ByteArray}{q:Cf}{start:Nat}{wv ev:Value}{j:Nat}{a b:Int}(h:RC B R (w0.put j a b) w s q start wv ev):RC B R w0 w s q start wv ev:=⟨h.bx,h.ow,h.br,h.bl.pop⟩
theorem rc_c0{w:World}{j:Nat}{a b:Value}(h:w.heap[j]?=some (.cells #[a,b] 28 (0,0))):w.cell? ⟨j,0,none⟩=some a:=by simp[World.cell?,h]
theorem rc_c1{w:World}{j:Nat}{a b:Value}(h:w.heap[j]?=some (.cells #[a,b] 28 (0,0))):w.cell? ⟨j,1,none⟩=some b:=by simp[World.cell?,h]
theorem rc_fz{w:World}{j:Nat}{a b:Value}(h:w.heap[j]?=some (.cells #[a,b] 28 (0,0)))(i:Nat):w.frozen? ⟨j,i,none⟩=false:=by simp[World.frozen?,h]
theorem rc_lt{w:World}{j:Nat}{a b:Value}(h:w.heap[j]?=some (.cells #[a,b] 28 (0,0))):j<w.heap.size:=(Array.getElem?_eq_some_iff.1 h).1
theorem rc_put{w:World}{j:Nat}{a b:Value}(h:w.heap[j]?=some (.cells #[a,b] 28 (0,0)))(x y:Value):((w.setCell ⟨j,0,none⟩ x).setCell ⟨j,1,none⟩ y).heap[j]?=some (.cells #[x,y] 28 (0,0)):=by
 have h1:=heap_set h 0 x
 have h2:=heap_set h1 1 y
 simpa using h2
theorem Fr.res{B:Nat}{x:Fx}{w:World}{j:Nat}(h:Fr B x w)(hB:B<=j)(hj:∀p∈x.P,p.1≠j)(u v:Value):Fr B x ((w.setCell ⟨j,0,none⟩ u).setCell ⟨j,1,none⟩ v):=by
 refine ⟨(h.1.setCell (p:=⟨j,0,none⟩) hB _).setCell (p:=⟨j,1,none⟩) hB _,fun k hk=>?_⟩
 have hne:k.1≠j:=hj k hk
 rw[Below.heap_setCell _ _ _ _ hne,Below.heap_setCell _ _ _ _ hne]
 exact h.2 k hk
theorem RC.res{B R:Nat}{w0:Fx}{w:World}{s:ByteArray}{q:Cf}{start:Nat}{wv ev:Value}{j:Nat}{a b:Value}(h:RC B R w0 w s q start wv ev)(hc:w.heap[j]?=some (.cells #[a,b] 28 (0,0)))(hB:B<=j)(hj:∀p∈w0.P,p.1≠j)(u v:Value):RC B R w0 ((w.setCell ⟨j,0,none⟩ u).setCell ⟨j,1,none⟩ v) s q start wv ev:=by
 have hnl:∀k,lst w k->k≠j:=fun k hk e=>by
  obtain ⟨c,t,h1,h2⟩:=hk
  rw[e,hc] at h1;cases h1;simp at h2
 have hR:R≠j:=fun e=>by
  have:=h.bx;unfold Bx at this
  rw[e,hc] at this;cases this
 refine ⟨h.bx.same (by rw[Below.heap_setCell _ _ _ _ hR,Below.heap_setCell _ _ _ _ hR]),h.ow.go (by simp) (fun k _ hk=>by rw[Below.heap_setCell _ _ _ _ (hnl k hk),Below.heap_setCell _ _ _ _ (hnl k hk)]),h.br,h.bl.res hB hj u v⟩
theorem end52_no(B R:Nat)(w0:Fx)(w:World)(s:ByteArray)(q:Cf)(start:Nat)(wv ev:Value)(wS:World)(k:Nat)(h:RSZ B R w0 w s q start wv ev wS)(hP:∀p∈w0.P,p.1<w.heap.size)(hs:s.size<=1000000)(hk:q.st=k)(hst:k=3∨k=2∨k=4) :
  Calls Tryz.prog 60 #[.pointer (some ⟨R,0,none⟩),.int .u8 k] w (FnP B R w0 s (finF (linesF s.data.toList) q)):=by
 have HX:Hid (finF (linesF s.data.toList) q=.er 230 (linesF s.data.toList)):=(by show _=_;simp[finF,hk,hst])
 rw[HX.out]
 have K13:Hid (∀w,Calls Tryz.prog 84 #[.string s] w fun e w'=>e=.returned (.int .i64 (linesF s.data.toList))/\w'=w):=fun w=>lines13 s w (by omega)
 have hlb:=lines_le s.data.toList
 have hsl:s.data.toList.length=s.size:=by simp
 rw[hsl] at hlb
 generalize linesF s.data.toList=L at*
 have hlt:=h.bx.lt
 have c0:(w.alloc (.cells #[.int .i64 0,.int .i64 0] 28)).cell? ⟨R,0,none⟩=some (.string s):=((al_below w _).cell (p:=⟨R,0,none⟩) hlt).trans h.bx.c0
 have hB:B<=w.heap.size:=by have:=h.br;omega
 have HF:Hid (∀o1 o2,Fr B w0 ((w.alloc o1).alloc o2)):=fun o1 o2=>(h.bl.go (al_below w _) hB).go (al_below _ _) (Nat.le_trans hB (al_below w _).size)
 have K46:=Lib.hid (fun w=>esc46 k w)
 clear h hP HX
 rcases hst with rfl|rfl|rfl
 ·go_enter Tryz.func60,Tryz.ntmps60
  go_wp2_with fail
  refine (K13.out _).mono ?_
  rintro e w1 ⟨rfl,rfl⟩
  go_wp2_with fail
  refine bodyPost_ret (v:=.agg #[.int .i64 230,.int .i64 L]) ?_ rfl ⟨230,L,rfl,rfl,rfl,HF.out _ _⟩
  simp[results,Tryz.results60,go_sem]
 ·go_enter Tryz.func60,Tryz.ntmps60
  go_wp2_with fail
  refine (K13.out _).mono ?_
  rintro e w1 ⟨rfl,rfl⟩
  go_wp2_with fail
  refine (K46.out _).mono ?_
  rintro e w1 ⟨rfl,rfl⟩
  go_wp2_with fail
  refine bodyPost_ret (v:=.agg #[.int .i64 230,.int .i64 L]) ?_ rfl ⟨230,L,rfl,rfl,rfl,HF.out _ _⟩
  simp[results,Tryz.results60,go_sem]
 ·go_enter Tryz.func60,Tryz.ntmps60
  go_wp2_with fail
  refine (K13.out _).mono ?_
  rintro e w1 ⟨rfl,rfl⟩
  go_wp2_with fail
  refine (K46.out _).mono ?_
  rintro e w1 ⟨rfl,rfl⟩
  go_wp2_with fail
  refine bodyPost_ret (v:=.agg #[.int .i64 230,.int .i64 L]) ?_ rfl ⟨230,L,rfl,rfl,rfl,HF.out _ _⟩
  simp[results,Tryz.results60,go_sem]
theorem end52_out(B R:Nat)(w0:Fx)(w:World)(s:ByteArray)(q:Cf)(start:Nat)(wv ev:Value)(wS:World)(k:Nat)(h:RSZ B R w0 w s q start wv ev wS)(hP:∀p∈w0.P,p.1<w.heap.size)(hs:s.size<=1000000)(hk:q.st=k)(hst:k=0∨k=5∨k=6)(he:q.es.length<=1000000) :
  Calls Tryz.prog 60 #[.pointer (some ⟨R,0,none⟩),.int .u8 k] w (FnP B R w0 s (finF (linesF s.data.toList) q)):=by
 have HX:Hid (finF (linesF s.data.toList) q=if 0<q.op then .er 230 (linesF s.data.toList) else .ok (closeF q).es):=(by
  show _=_
  have e1:¬ (q.st=3∨q.st=2∨q.st=4):=by omega
  have e2:¬ q.st=1:=by omega
  simp only[finF,if_neg e1,if_neg e2])
 rw[HX.out]
 have K13:Hid (∀w,Calls Tryz.prog 84 #[.string s] w fun e w'=>e=.returned (.int .i64 (linesF s.data.toList))/\w'=w):=fun w=>lines13 s w (by omega)
 have hlb:=lines_le s.data.toList
 have hsl:s.data.toList.length=s.size:=by simp
 rw[hsl] at hlb
 generalize linesF s.data.toList=L at*
 have hlt:=h.bx.lt
 have c0:(w.alloc (.cells #[.int .i64 0,.int .i64 0] 28)).cell? ⟨R,0,none⟩=some (.string s):=((al_below w _).cell (p:=⟨R,0,none⟩) hlt).trans h.bx.c0
 have hB:B<=w.heap.size:=by have:=h.br;omega
 have HF:Hid (∀o1 o2,Fr B w0 ((w.alloc o1).alloc o2)):=fun o1 o2=>(h.bl.go (al_below w _) hB).go (al_below _ _) (Nat.le_trans hB (al_below w _).size)
 have K46:=Lib.hid (fun w=>esc46 k w)
 have HJ:Hid (∀p∈w0.P,p.1≠w.heap.size):=fun p hp e=>by have:=hP p hp;omega
 have HA:=Lib.hid (h.go (al_below w (.cells #[.int .i64 0,.int .i64 0] 28)))
 have HA2:=Lib.hid (HA.out.go (al_below _ (.cells #[.int .i64 230,.int .i64 L] 28)))
 have hJ0:((w.alloc (.cells #[.int .i64 0,.int .i64 0] 28)).alloc (.cells #[.int .i64 230,.int .i64 L] 28)).heap[w.heap.size]?=some (.cells #[.int .i64 0,.int .i64 0] 28 (0,0)):=by
  rw[(al_below (w.alloc (.cells #[.int .i64 0,.int .i64 0] 28)) _).block w.heap.size (by simp)]
  exact heap_alloc_new w _
 have hJ9:((w.alloc (.cells #[.int .i64 0,.int .i64 0] 28)).alloc (.cells #[.int .i64 230,.int .i64 L] 28)).heap[w.heap.size+1]?=some (.cells #[.int .i64 230,.int .i64 L] 28 (0,0)):=by
  have:=heap_alloc_new (w.alloc (.cells #[.int .i64 0,.int .i64 0] 28)) (.cells #[.int .i64 230,.int .i64 L] 28)
  simpa using this
 have HB:=Lib.hid ((HA2.out.put (w.heap.size+1) 230 L hJ9).put w.heap.size 0 0 hJ0)
 clear hJ9
 have hJ1:=rc_c0 hJ0
 clear hJ0
 have c2:=HA2.out.bx.c2
 have KC:=Lib.hid (close65 B R ((w0.put (w.heap.size+1) 230 L).put w.heap.size 0 0) _ s q start wv ev wS HB.out he)
 have n3:¬ (k:Int)=3:=by omega
 have n3b:((k:Int) == 3)=false:=by simpa using n3
 have n1:¬ (k:Int)=1:=by omega
 have n1b:((k:Int) == 1)=false:=by simpa using n1
 have hd:decide (k=2∨k=4)=false:=by simp;omega
 rw[hd] at K46
 by_cases hop:0<q.op
 ·rw[if_pos hop]
  have hop':(0:Int)<(q.op:Int):=by omega
  clear h hP HX hst hk hd HA HA2 HB KC hop
  go_enter Tryz.func60,Tryz.ntmps60
  go_wp2_with fail
  refine (K13.out _).mono ?_
  rintro e w1 ⟨rfl,rfl⟩
  go_wp2_with fail
  refine (K46.out _).mono ?_
  rintro e w1 ⟨rfl,rfl⟩
  go_wp2_with fail
  refine bodyPost_ret (v:=.agg #[.int .i64 230,.int .i64 L]) ?_ rfl ⟨230,L,rfl,rfl,rfl,HF.out _ _⟩
  simp[results,Tryz.results60,go_sem]
 ·rw[if_neg hop]
  have hop':¬ (0:Int)<(q.op:Int):=by omega
  clear h hP HX hst hk hd HA HA2 HB hop
  go_enter Tryz.func60,Tryz.ntmps60
  go_wp2_with fail
  refine (K13.out _).mono ?_
  rintro e w1 ⟨rfl,rfl⟩
  go_wp2_with fail
  refine (K46.out _).mono ?_
  rintro e w1 ⟨rfl,rfl⟩
  go_wp2_with fail
  refine KC.out.mono ?_
  rintro e w2 ⟨rfl,H2⟩
  obtain ⟨wv',ev',hrc⟩:=H2.out
  have HRC:=Lib.hid hrc
  clear hrc H2
  have HC2:=Lib.hid HRC.out.bl.cell
  have k0:=rc_c0 HC2.out
  have k1:=rc_c1 HC2.out
  have kf:=rc_fz HC2.out
  have kl:=rc_lt HC2.out
  have z0:=rc_c0 (rc_put HC2.out (.int .i64 0) (.int .i64 0))
  have z1:=rc_c1 (rc_put HC2.out (.int .i64 0) (.int .i64 0))
  go_wp2_with fail
  refine bodyPost_ret (v:=.agg #[.int .i64 0,.int .i64 0]) ?_ rfl ⟨0,0,rfl,rfl,rfl,_,_,_,_,rfl,(HRC.out.pop.pop).res HC2.out hB HJ.out _ _⟩
  simp[results,Tryz.results60,go_sem,k0,k1,z0,z1,kl]
theorem end52_word(B R:Nat)(w0:Fx)(w:World)(s:ByteArray)(q:Cf)(start:Nat)(wv ev:Value)(wS:World)(k:Nat)(h:RSZ B R w0 w s q start wv ev wS)(hP:∀p∈w0.P,p.1<w.heap.size)(hs:s.size<=1000000)(hk:q.st=k)(hst:k=1)(hc:CurS s q start s.size)(hw:q.ws.length<=64)(he:q.es.length<=1000000) :
  Calls Tryz.prog 60 #[.pointer (some ⟨R,0,none⟩),.int .u8 k] w (FnP B R w0 s (finF (linesF s.data.toList) q)):=by
 have HX:Hid (finF (linesF s.data.toList) q=match keepF q false with|none=>.er 3 q.line|some q'=>if 0<q'.op then .er 230 (linesF s.data.toList) else .ok (closeF q').es):=(by
  show _=_
  have e1:¬ (q.st=3∨q.st=2∨q.st=4):=by omega
  have e2:q.st=1:=by omega
  simp only[finF,if_neg e1,if_pos e2]<;>rfl)
 rw[HX.out]
 have K13:Hid (∀w,Calls Tryz.prog 84 #[.string s] w fun e w'=>e=.returned (.int .i64 (linesF s.data.toList))/\w'=w):=fun w=>lines13 s w (by omega)
 have hlb:=lines_le s.data.toList
 have hsl:s.data.toList.length=s.size:=by simp
 rw[hsl] at hlb
 generalize linesF s.data.toList=L at*
 have hlt:=h.bx.lt
 have c0:(w.alloc (.cells #[.int .i64 0,.int .i64 0] 28)).cell? ⟨R,0,none⟩=some (.string s):=((al_below w _).cell (p:=⟨R,0,none⟩) hlt).trans h.bx.c0
 have hB:B<=w.heap.size:=by have:=h.br;omega
 have HF:Hid (∀o1 o2,Fr B w0 ((w.alloc o1).alloc o2)):=fun o1 o2=>(h.bl.go (al_below w _) hB).go (al_below _ _) (Nat.le_trans hB (al_below w _).size)
 have K46:=Lib.hid (fun w=>esc46 1 w)
 have HJ:Hid (∀p∈w0.P,p.1≠w.heap.size):=fun p hp e=>by have:=hP p hp;omega
 have HA:=Lib.hid (h.go (al_below w (.cells #[.int .i64 0,.int .i64 0] 28)))
 have HA2:=Lib.hid (HA.out.go (al_below _ (.cells #[.int .i64 230,.int .i64 L] 28)))
 have hJ0:((w.alloc (.cells #[.int .i64 0,.int .i64 0] 28)).alloc (.cells #[.int .i64 230,.int .i64 L] 28)).heap[w.heap.size]?=some (.cells #[.int .i64 0,.int .i64 0] 28 (0,0)):=by
  rw[(al_below (w.alloc (.cells #[.int .i64 0,.int .i64 0] 28)) _).block w.heap.size (by simp)]
  exact heap_alloc_new w _
 have hJ9:((w.alloc (.cells #[.int .i64 0,.int .i64 0] 28)).alloc (.cells #[.int .i64 230,.int .i64 L] 28)).heap[w.heap.size+1]?=some (.cells #[.int .i64 230,.int .i64 L] 28 (0,0)):=by
  have:=heap_alloc_new (w.alloc (.cells #[.int .i64 0,.int .i64 0] 28)) (.cells #[.int .i64 230,.int .i64 L] 28)
  simpa using this
 have HB:=Lib.hid ((HA2.out.put (w.heap.size+1) 230 L hJ9).put w.heap.size 0 0 hJ0)
 clear hJ9
 have hJ1:=rc_c0 hJ0
 clear hJ0
 subst hst
 have c0b:=HA2.out.bx.c0
 have KK:=Lib.hid (keep64 B R ((w0.put (w.heap.size+1) 230 L).put w.heap.size 0 0) _ s q start wv ev wS s.size false HB.out hw hc hs)
 have hd:decide (1=2∨1=4)=false:=by decide
 rw[hd] at K46
 cases hkf:keepF q false with
 |none=>
  simp only
  have HKK:=Lib.hid hkf
  clear h hP HX hk hd HA HA2 HB hkf hc
  go_enter Tryz.func60,Tryz.ntmps60
  go_wp2_with fail
  refine (K13.out _).mono ?_
  rintro e w1 ⟨rfl,rfl⟩
  go_wp2_with fail
  refine (K46.out _).mono ?_
  rintro e w1 ⟨rfl,rfl⟩
  go_wp2_with fail
  refine KK.out.mono ?_
  rintro e w2 ⟨er,rfl,H2⟩
  rcases H2.out with ⟨k1,rfl,wv2,ev2,wS2,k3⟩|⟨rfl,q2,k1,wv2,ev2,wS2,k3⟩
  ·have HRS:=Lib.hid k3
   clear H2 k1 k3
   have c1:=HRS.out.bx.c1
   have HC2:=Lib.hid HRS.out.bl.cell
   have k0:=rc_c0 HC2.out
   have k1:=rc_c1 HC2.out
   have kf:=rc_fz HC2.out
   have kl:=rc_lt HC2.out
   have z0:=rc_c0 (rc_put HC2.out (.int .i64 3) (.int .i64 q.line))
   have z1:=rc_c1 (rc_put HC2.out (.int .i64 3) (.int .i64 q.line))
   go_wp2_with fail
   refine bodyPost_ret (v:=.agg #[.int .i64 3,.int .i64 q.line]) ?_ rfl ⟨3,q.line,rfl,rfl,rfl,HRS.out.bl.pop.pop.res hB HJ.out _ _⟩
   simp[results,Tryz.results60,go_sem,k0,k1,z0,z1,kl]
  ·exfalso
   rw[HKK.out] at k1;cases k1
 |some q'=>
  simp only
  have HKK:=Lib.hid hkf
  have hes:=(keepF_es hkf).1
  have hop0:=(keepF_es hkf).2.1
  have KC:Hid (∀W wv ev wS,RSZ B R ((w0.put (w.heap.size+1) 230 L).put w.heap.size 0 0) W s q' start wv ev wS->Calls Tryz.prog 83 #[.pointer (some ⟨R,0,none⟩)] W fun e w'=>e=.returned (.tuple #[])/\Hid (∃wv' ev',RC B R ((w0.put (w.heap.size+1) 230 L).put w.heap.size 0 0) w' s (closeF q') start wv' ev')):=fun W wv ev wS hW=>close65 B R _ W s q' start wv ev wS hW (by rw[hes];exact he)
  clear h hP HX hk hd HA HA2 HB hkf hc hes hop0
  by_cases hop:0<q'.op
  ·rw[if_pos hop]
   have hop':(0:Int)<(q'.op:Int):=by omega
   clear hop
   go_enter Tryz.func60,Tryz.ntmps60
   go_wp2_with fail
   refine (K13.out _).mono ?_
   rintro e w1 ⟨rfl,rfl⟩
   go_wp2_with fail
   refine (K46.out _).mono ?_
   rintro e w1 ⟨rfl,rfl⟩
   go_wp2_with fail
   refine KK.out.mono ?_
   rintro e w2 ⟨er,rfl,H2⟩
   rcases H2.out with ⟨k1,rfl,wv2,ev2,wS2,k3⟩|⟨rfl,q2,k1,wv2,ev2,wS2,k3⟩
   ·exfalso
    rw[HKK.out] at k1;cases k1
   ·rw[HKK.out] at k1
    cases k1
    have HRS:=Lib.hid k3
    clear H2 k3
    have c2:=HRS.out.bx.c2
    have HC2:=Lib.hid HRS.out.bl.cell
    have HC3:=Lib.hid HRS.out.bl.pop.cell
    have k0:=rc_c0 HC2.out
    have k1:=rc_c1 HC2.out
    have l0:=rc_c0 HC3.out
    have l1:=rc_c1 HC3.out
    have kf:=rc_fz HC2.out
    have kl:=rc_lt HC2.out
    have z0:=rc_c0 (rc_put HC2.out (.int .i64 230) (.int .i64 L))
    have z1:=rc_c1 (rc_put HC2.out (.int .i64 230) (.int .i64 L))
    go_wp2_with fail
    refine bodyPost_ret (v:=.agg #[.int .i64 230,.int .i64 L]) ?_ rfl ⟨230,L,rfl,rfl,rfl,HRS.out.bl.pop.pop.res hB HJ.out _ _⟩
    simp[results,Tryz.results60,go_sem,k0,k1,z0,z1,kl]
  ·rw[if_neg hop]
   have hop':¬ (0:Int)<(q'.op:Int):=by omega
   clear hop
   go_enter Tryz.func60,Tryz.ntmps60
   go_wp2_with fail
   refine (K13.out _).mono ?_
   rintro e w1 ⟨rfl,rfl⟩
   go_wp2_with fail
   refine (K46.out _).mono ?_
   rintro e w1 ⟨rfl,rfl⟩
   go_wp2_with fail
   refine KK.out.mono ?_
   rintro e w2 ⟨er,rfl,H2⟩
   rcases H2.out with ⟨k1,rfl,wv2,ev2,wS2,k3⟩|⟨rfl,q2,k1,wv2,ev2,wS2,k3⟩
   ·exfalso
    rw[HKK.out] at k1;cases k1
   ·rw[HKK.out] at k1
    cases k1
    have HRS:=Lib.hid k3
    clear H2 k3
    have c2:=HRS.out.bx.c2
    go_wp2_with fail
    refine (KC.out _ _ _ _ HRS.out).mono ?_
    rintro e w3 ⟨rfl,H3⟩
    obtain ⟨wv',ev',hrc⟩:=H3.out
    have HRC:=Lib.hid hrc
    clear hrc H3
    have HC2:=Lib.hid HRC.out.bl.cell
    have k0:=rc_c0 HC2.out
    have k1:=rc_c1 HC2.out
    have kf:=rc_fz HC2.out
    have kl:=rc_lt HC2.out
    have z0:=rc_c0 (rc_put HC2.out (.int .i64 0) (.int .i64 0))
    have z1:=rc_c1 (rc_put HC2.out (.int .i64 0) (.int .i64 0))
    go_wp2_with fail
    refine bodyPost_ret (v:=.agg #[.int .i64 0,.int .i64 0]) ?_ rfl ⟨0,0,rfl,rfl,rfl,_,_,_,_,rfl,(HRC.out.pop.pop).res HC2.out hB HJ.out _ _⟩
    simp[results,Tryz.results60,go_sem,k0,k1,z0,z1,kl]
theorem end52_any(B R:Nat)(w0:Fx)(w:World)(s:ByteArray)(q:Cf)(start:Nat)(wv ev:Value)(wS:World)(k:Nat)(h:RSZ B R w0 w s q start wv ev wS)(hP:∀p∈w0.P,p.1<w.heap.size)(hs:s.size<=1000000)(hk:q.st=k)(hst:k<=6)(hc:q.st=1->CurS s q start s.size)(hw:q.ws.length<=64)(he:q.es.length<=1000000) :
  Calls Tryz.prog 60 #[.pointer (some ⟨R,0,none⟩),.int .u8 k] w (FnP B R w0 s (finF (linesF s.data.toList) q)):=by
 by_cases h1:k=3∨k=2∨k=4
 ·exact end52_no B R w0 w s q start wv ev wS k h hP hs hk h1
 ·by_cases h2:k=1
  ·exact end52_word B R w0 w s q start wv ev wS k h hP hs hk h2 (hc (by omega)) hw he
  ·exact end52_out B R w0 w s q start wv ev wS k h hP hs hk (by omega) he
structure Nb(q:Cf)(p:Nat):Prop where
 st:q.st<=6
 ln:q.line<=p+1
 op:q.op<=p
 es:q.es.length<=p
 ws:q.ws.length<=64
theorem keep_nb{q q':Cf}{b:Bool}(h:keepF q b=some q')(hw:q.ws.length<=64):q'.ws.length<=64/\q'.op=q.op/\q'.line=q.line/\q'.es=q.es:=by
 have h1:=keepF_es h
 have h2:=keep_line h
 unfold keepF at h
 split at h
 ·cases h
 ·refine ⟨?_,h1.2.1,h2,h1.1⟩
  rw[h1.2.2];simp;omega
theorem close_nb(q:Cf):(closeF q).es.length<=q.es.length+1:=by
 unfold closeF;simp only;split <;> simp
theorem out_nb{q q':Cf}{p:Nat}{c:UInt8}{r:List UInt8}(h:outF q c r=some q')(hl:q.line<=p+1)(ho:q.op<=p)(he:q.es.length<=p)(hw:q.ws.length<=64):Nb q' (p+1):=by
 unfold outF at h
 split at h
 ·cases h;exact ⟨by simp,by simp;omega,by simp;omega,by simp;omega,hw⟩
 ·split at h
  ·cases h;exact ⟨by simp,by simp;omega,by simp;omega,by simp;omega,hw⟩
  ·split at h
   ·split at h
    ·cases h
    ·cases h;exact ⟨by simp,by simp;omega,by simp;omega,by simp;omega,hw⟩
   ·split at h
    ·split at h
     ·cases h
      have:=close_nb { q with st:=0,line:=q.line+1 }
      refine ⟨by simp[beginF,closeF],by simp[beginF,closeF];omega,by simp[beginF,closeF];omega,?_,by simp[beginF]⟩
      show (closeF _).es.length<=p+1
      simp only at this;omega
     ·cases h;exact ⟨by simp,by simp;omega,by simp;omega,by simp;omega,hw⟩
    ·cases h;exact ⟨by simp,by simp;omega,by simp;omega,by simp;omega,hw⟩
theorem Nb.step{q q':Cf}{p:Nat}{c:UInt8}{r:List UInt8}(h:Nb q p)(hs:stepF q c r=.ok q'):Nb q' (p+1):=by
 obtain ⟨h1,h2,h3,h4,h5⟩:=h
 have m:∀k cur,k<=6->Nb { q with st:=k,cur:=cur } (p+1):=fun k cur hk=>⟨hk,by simp;omega,by simp;omega,by simp;omega,h5⟩
 unfold stepF at hs
 split at hs
 ·cases hs
 ·split at hs
  ·unfold firstF at hs
   split at hs
   ·exact out_nb (outR_ok hs) h2 h3 h4 h5
   ·split at hs
    ·cases hs;exact m 3 _ (by omega)
    ·split at hs
     ·cases hs;exact m 2 _ (by omega)
     ·cases hs;exact m 1 _ (by omega)
  ·split at hs
   ·unfold nextF at hs
    split at hs
    ·split at hs
     ·cases hs
     ·rename_i q1 hk
      obtain ⟨k1,k2,k3,k4⟩:=keep_nb hk h5
      exact out_nb (outR_ok hs) (by omega) (by omega) (by rw[k4];exact h4) k1
    ·split at hs
     ·cases hs
     ·split at hs
      ·cases hs;exact m 2 _ (by omega)
      ·cases hs;exact m 1 _ (by omega)
   ·split at hs
    ·cases hs;exact m 1 _ (by omega)
    ·split at hs
     ·unfold quotF at hs
      split at hs
      ·split at hs
       ·cases hs
       ·rename_i q1 hk
        obtain ⟨k1,k2,k3,k4⟩:=keep_nb hk h5
        cases hs
        exact ⟨by simp,by simp;omega,by simp;omega,by simp[k4];omega,k1⟩
      ·split at hs
       ·cases hs;exact m 4 _ (by omega)
       ·cases hs;exact m 3 _ (by omega)
     ·split at hs
      ·cases hs;exact m 3 _ (by omega)
      ·split at hs
       ·split at hs
        ·exact out_nb (outR_ok hs) h2 h3 h4 h5
        ·cases hs
       ·split at hs
        ·exact out_nb (outR_ok hs) h2 h3 h4 h5
        ·cases hs;exact ⟨h1,by omega,by omega,by omega,h5⟩
def Cu(s:ByteArray)(q:Cf)(start p:Nat):Prop:=(q.st=1∨q.st=2∨q.st=3∨q.st=4)->CurS s q start p
theorem drop_at(s:ByteArray)(p:Nat)(h:p<s.size):s.data.toList.drop p=s[p]::s.data.toList.drop (p+1):=by
 rw[List.drop_eq_getElem_cons (by simpa using h)];rfl
end Go.Proofs.YtjkljpdolhglcaaGreatDoor
