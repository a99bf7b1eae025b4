/- Texts laid together, in parts: Yg Wd Nb Ps Kd Cd Aw Zd Zf Zg Zh Zi Zj Zk Zl. -/
import Derived.Test.YtoppdmlmhigogaaGreatDoorWzh
import Derived.Laws.AppendOwn
import Derived.Laws.OwnMore
import Derived.Deep.AppendLies
import Derived.Deep.CutBlock
set_option maxRecDepth 100000
set_option maxHeartbeats 8000000
set_option linter.unusedVariables false
set_option linter.unusedSimpArgs false
open Array renaming getElem?_eq_some_iff → As
open Bool renaming false_eq_true → Bi
open Go renaming World → Ab, Calls → Ag, bodyPost_ret → An, Value → Ao, heap_alloc_new → Au, start → AB, results → AJ, maxLen → Gi
open Go.Addr renaming add → Kk
open Go.ByteArray renaming toList_eq → Ip
open Go.IntKind renaming wrap_i64 → BZ, i64 → CV
open Go.Lib renaming hid → Ac, decDigits → Bv, bytesWorld_below → Hq, atoiAll → MY
open Go.Proofs.Tryz renaming prog → Aa, ntmps123 → Fi, func123 → FS, ntmps122 → Gh, results123 → Gk, results216 → Hf, func122 → Hg, ntmps119 → Lq, func119 → Mw, results198 → OF, ntmps118 → OQ
open Go.RowKit.Below renaming refl → Ae, heap_setCell → Ar
open Go.Value renaming ownBlock → Bm, slice → Ce
open Go.World renaming cell? → Az, frozen? → Dv
open List renaming length_append → Af, getD_eq_getElem?_getD → Am, length_eq_zero_iff → Aq, mem_cons → Ax, getElem?_eq_getElem → AF, mem_append → AG, take_succ_eq_append_getElem → AH, all_eq_true → AO, length_cons → AP, length_map → AS, getElem_mem → AU, mem_map → AY, mem_singleton → Bc, flatMap_cons → Cn, length_nil → CZ, drop_eq_getElem_cons → El, mem_of_find?_eq_some → EE, length → FH, mem_of_getElem? → NO, drop_of_length_le → NU
open Nat renaming le_refl → Ad, le_trans → Aj, lt_of_lt_of_le → Ap, zero_le → Aw, le_succ_of_le → EJ, zero_add → Fg
open Option renaming bind_eq_some_iff → Dg, map_eq_some_iff → Ju
open Option.some renaming injEq → Iq
namespace Go.Proofs.YtoppdmlmhigogaaGreatDoor
open Go.ChangeShapes Go.WideShapes Go.ChangeAt Go.RowKit
theorem YK(s:ByteArray)(k:Nat):0<=(Ai s).getD k 0/\(Ai s).getD k 0<=255:=by
 rw[Am];cases h:(Ai s)[k]? with
 |none=>simp
 |some z=>exact CY s z (NO h)
theorem pX{t:Nat}{ws:List Wd}{d:Dat}(h:JZ t ws=some d):Bd d:=by
 cases ws with
 |nil=>cases h
 |cons p ps=>
  simp only[JZ]at h;rw[Dg]at h;obtain⟨m,hm,h⟩:=h;split at h
  ·rename_i hc
   split at h
   ·rename_i h2
    injection h with h
    subst h;obtain⟨h3,h4,h5⟩:=jO h2;have hpl:=h5;have hmay:Gz t=true:=by
     cases hmt:Gz t with
     |true=>rfl
     |false=>unfold Bw at h3;rw[hmt]at h3;simp at h3
    have hb:∀z∈prs (Ai ⟨(DZ ps).toArray⟩) m,0<=z/\z<=255:=by
     intro z hz;unfold prs at hz;rw[AY]at hz;obtain⟨k,hk,rfl⟩:=hz;have hok:=AO.1 hc.2.2 k hk;simp only[decide_eq_true_eq]at hok;have hb1:=YJ ((Ai ⟨(DZ ps).toArray⟩).getD (2*k) 0) (YK _ _);have hb2:=YJ ((Ai ⟨(DZ ps).toArray⟩).getD (2*k+1) 0) (YK _ _);unfold okp at hok;unfold pv;omega
    rw[Wz t _ hb hmay hpl]at h2 ⊢;split at h2
    ·rename_i h6
     split at h2
     ·rename_i h7
      rw[if_pos h6,if_pos h7];exact Vk t _ hpl
     ·cases h2
    ·cases h2
   ·cases h
  ·cases h
theorem wQ{K:Nat}{z:Bool}{d:Dat}(hK:K<=900)(h:DB K z d):Bd d:=by
 refine⟨by have:=h.n;omega,h.nl,by have:=h.u;omega,?_,by have:=h.r;omega⟩;unfold Ro;have h1:=Ua (d.ts.map tz) 1000001 (fun x hx=>by
  rw[AY]at hx;obtain⟨s,hs,rfl⟩:=hx;have:=h.tl s hs;unfold tz;omega)
 rw[AS]at h1;have:=h.t;have h2:d.ts.length*1000001<=900*1000001:=Nat.mul_le_mul_right _ (by omega);omega
structure PB(K:Nat)(p:Pst):Prop where
 d:DB K false p.2
 w:WB p.1
theorem WB.sub{ws ws':List Wd}{s:ByteArray}(h:WB ws)(h2:tkN ws=some (s,ws')):WB ws'/\s.size<=1000000:=by
 cases ws with
 |nil=>cases h2
 |cons p r=>
  obtain⟨a,q⟩:=p;simp only[tkN,Iq,Prod.mk.injEq]at h2;obtain⟨rfl,rfl⟩:=h2;exact⟨h.tail,h.2 (a,q) (by simp)⟩
theorem kX{ws ws':List Wd}{s:ByteArray}(h2:tkB ws=some (s,ws')):tkN ws=some (s,ws'):=by
 cases ws with
 |nil=>cases h2
 |cons p r=>
  obtain⟨a,q⟩:=p;cases q with
  |true=>cases h2
  |false=>exact h2
theorem QO{α:Type}{tk:List Wd->Option (ByteArray × List Wd)}{g:ByteArray->Option α}{put:Dat->α->Dat}{K K':Nat}{p p':Pst}(htk:∀ws s ws',tk ws=some (s,ws')->tkN ws=some (s,ws'))(hput:∀d s v,DB K false d->s.size<=1000000->g s=some v->DB K' false (put d v))(h:PB K p)(h2:stp tk g put p=some p'):PB K' p':=by
 unfold stp at h2;rw[Dg]at h2;obtain⟨q,hq,h2⟩:=h2;rw[Ju]at h2;obtain⟨v,hv,rfl⟩:=h2;obtain⟨s,ws'⟩:=q;obtain⟨h3,h4⟩:=h.w.sub (htk _ _ _ hq);exact⟨hput _ s v h.d h4 hv,h3⟩
theorem GR{f:Pst->Option Pst}(hf:∀K p p',PB K p->f p=some p'->PB (K+1) p'):∀(k K:Nat) (o:Option Pst),(∀p,o=some p->PB K p)->∀p,rep f k o=some p->PB (K+k) p
 |0,K,o,h,p,hp=>h p hp
 |k+1,K,o,h,p,hp=>by
  rw[fS,Dg]at hp;obtain⟨p1,h1,h2⟩:=hp;exact hf _ _ _ (GR hf k K o h p1 h1) h2
theorem Qf(og:List ByteArray):∀K p p',PB K p->GN og p=some p'->PB (K+1) p':=fun K p p' h h2=>QO (fun _ _ _=>kX) (fun d s v hd hs hv=>by
 unfold Np at hv;split at hv
 ·injection hv with hv;subst hv;exact hd.name (Tq s og)
 ·cases hv) h h2
theorem UF:∀K p p',PB K p->LG p=some p'->PB (K+1) p':=fun K p p' h h2=>QO (fun _ _ _=>kX) (fun d s v hd hs hv=>hd.num v) h h2
theorem bC{s v:ByteArray}(hs:s.size<=1000000)(hv:RP s=some v):v.size<=1000000:=by
 have h1:=Rj s;unfold RP at hv;unfold Ga at h1;cases hx:FC (Ai s) with
 |none=>rw[hx]at hv;cases hv
 |some o=>rw[hx]at hv h1;simp at hv;subst hv;simp at h1;omega
theorem Yt:∀K p p',PB K p->Hy p=some p'->PB (K+1) p':=fun K p p' h h2=>QO (fun _ _ _ h=>h) (fun d s v hd hs hv=>hd.text (bC hs hv)) h h2
theorem sN:∀K p p',PB K p->bB p=some p'->PB (K+1) p':=fun K p p' h h2=>QO (fun _ _ _ h=>h) (fun d s v hd hs hv=>by injection hv with hv;subst hv;exact hd.text hs) h h2
theorem DB.up{K:Nat}{z:Bool}{d:Dat}(h:DB K z d):DB (K+1) z d:=⟨EJ h.n,EJ h.u,EJ h.t,h.z,h.nl,h.tl,h.r⟩
theorem oZ:∀K p p',PB K p->Ti p=some p'->PB (K+1) p':=fun K p p' h h2=>QO (fun _ _ _=>kX) (fun d s v hd hs hv=>(hd.addr (QH hv)).up) h h2
theorem uW{t:Nat}{og:List ByteArray}{ws:List Wd}{p:Pst}(hb:WB ws)(h:Ji t og ws=some p):∃K,K<=900/\PB K p:=by
 have h0:∀p,some (ws,Eo)=some p->PB 0 p:=fun p hp=>by injection hp with hp;subst hp;exact⟨DB.nil 0 false,hb⟩
 unfold Ji at h;split at h
 ·exact⟨_,by omega,GR oZ 1 0 _ h0 p h⟩
 split at h
 ·exact⟨_,by omega,GR (Qf og) 1 0 _ h0 p h⟩
 split at h
 ·exact⟨_,by omega,GR UF 5 _ _ (GR (Qf og) 2 0 _ h0) p h⟩
 split at h
 ·exact⟨_,by omega,GR (Qf og) 1 _ _ (GR UF 1 0 _ h0) p h⟩
 split at h
 ·exact⟨_,by omega,GR (Qf og) 1 _ _ (GR UF 3 0 _ h0) p h⟩
 split at h
 ·exact⟨_,by have:=hb.1;omega,GR Yt (max 1 ws.length) 0 _ h0 p h⟩
 split at h
 ·exact⟨_,by omega,GR Yt 1 _ _ (GR sN 1 _ _ (GR UF 1 0 _ h0)) p h⟩
 ·cases h
theorem tK{t:Nat}{og:List ByteArray}{ws:List Wd}{d:Dat}(hb:WB ws)(h:Ge t og ws=some d):Bd d:=by
 unfold Ge at h;split at h
 ·exact pX h
 ·rw[Dg]at h;obtain⟨p,hp,h⟩:=h;split at h
  ·injection h with h;subst h
   obtain⟨K,hK,hpb⟩:=uW hb hp;exact wQ hK hpb.d
  ·cases h
theorem vP{ps:List Wd}(h:WB ps):(DZ ps).length<=1000000000:=by
 have h1:∀ps:List Wd,(∀p∈ps,p.1.size<=1000000)->(DZ ps).length<=ps.length*1000000:=by
  intro ps;induction ps with
  |nil=>intro _;simp[DZ]
  |cons p r ih=>
   intro h;have a:=ih (fun q hq=>h q (by simp[hq]));have b:=h p (by simp);have c:p.1.data.toList.length=p.1.size:=rfl;have e:DZ (p::r)=p.1.data.toList++DZ r:=by simp[DZ]
   rw[e,Af,AP,Nat.succ_mul];omega
 have:=h1 ps h.2;have h2:ps.length*1000000<=500*1000000:=Nat.mul_le_mul_right _ h.1;omega
theorem eX (t : Nat) (a : Option Addr) (c : Nat) (w : Ab) : Ag Aa 216 #[.int .u16 (t : Int), .slice a 0 c] w (HsP none w) := by
  have HRB : Hid (BD (w.alloc (.cells #[.slice none 0 0, .slice none 0 0, .slice none 0 0, .slice none 0 0] 41)) w.heap.size Bo) := Au _ _;have HBW6 : Hid (Blw w (w.alloc (.cells #[.slice none 0 0, .slice none 0 0, .slice none 0 0, .slice none 0 0] 41))) := Ah _ _;have er0 := HRB.out.box.1;have er1 := HRB.out.box.2.1;have er2 := HRB.out.box.2.2.1;have er3 := HRB.out.box.2.2.2.1;have ez0 := HRB.out.fz 0;have ez1 := HRB.out.fz 1;have ez2 := HRB.out.fz 2;have ez3 := HRB.out.fz 3;simp only at er0 er1 er2 er3;go_enter Tryz.func216, Tryz.ntmps216;go_wp2_with fail;first
  | exact An (v := .tuple #[.agg #[.slice none 0 0, .slice none 0 0, .slice none 0 0, .slice none 0 0], .bool false]) (by simp [AJ, Hf, go_sem, er0, er1, er2, er3]) rfl ⟨Bo, false, rfl, ⟨HBW6.out, fun h => by (cases h), fun _ => rfl⟩⟩
  | (have HX : Hid (BD ((((((w.alloc (.cells #[.slice none 0 0, .slice none 0 0, .slice none 0 0, .slice none 0 0] 41)).setCell ⟨w.heap.size, 0, none⟩ (.slice none 0 0)).setCell ⟨w.heap.size, 1, none⟩ (.slice none 0 0)).setCell ⟨w.heap.size, 2, none⟩ (.slice none 0 0)).setCell ⟨w.heap.size, 3, none⟩ (.slice none 0 0))) w.heap.size Bo /\ Blw w ((((((w.alloc (.cells #[.slice none 0 0, .slice none 0 0, .slice none 0 0, .slice none 0 0] 41)).setCell ⟨w.heap.size, 0, none⟩ (.slice none 0 0)).setCell ⟨w.heap.size, 1, none⟩ (.slice none 0 0)).setCell ⟨w.heap.size, 2, none⟩ (.slice none 0 0)).setCell ⟨w.heap.size, 3, none⟩ (.slice none 0 0)))) := ret4 HRB.out HBW6.out (Ad _) Bo
     generalize ((((((w.alloc (.cells #[.slice none 0 0, .slice none 0 0, .slice none 0 0, .slice none 0 0] 41)).setCell ⟨w.heap.size, 0, none⟩ (.slice none 0 0)).setCell ⟨w.heap.size, 1, none⟩ (.slice none 0 0)).setCell ⟨w.heap.size, 2, none⟩ (.slice none 0 0)).setCell ⟨w.heap.size, 3, none⟩ (.slice none 0 0))) = W9 at *;have z0 := HX.out.1.box.1;have z1 := HX.out.1.box.2.1;have z2 := HX.out.1.box.2.2.1;have z3 := HX.out.1.box.2.2.2.1;exact An (v := .tuple #[.agg #[.slice none 0 0, .slice none 0 0, .slice none 0 0, .slice none 0 0], .bool false]) (by simp [AJ, Hf, go_sem, z0, z1, z2, z3]) rfl ⟨Bo, false, rfl, ⟨HX.out.2, fun h => by (cases h), fun _ => rfl⟩⟩)
theorem mB(t:Nat)(b o:Nat)(r:List Wd)(c:Nat)(oa:Option Addr)(on oc:Nat)(w:Ab)(hw:RdW w (some ⟨b,o,none⟩) (OD::r))(hc:r.length+1<=c)(h63:c<=9223372036854775807)(hb5:WB r)(hE:Cc w) :
  Ag Aa 198 #[.int .u16 (t:Int),.slice (some ⟨b,o,none⟩) (r.length+1) c,.slice oa on oc] w (HsP (JZ t r) w):=by
 obtain⟨b',o',e',hb,c1,c2,hrr⟩:=hw.head;injection e' with e'
 injection e' with e1 e2
 subst e1;subst e2;have HZ:Hid (Blw w (FV w)/\BD (FV w) w.heap.size Bo):=⟨Ah _ _,Au _ _⟩;have hs0:(FV w).heap.size=w.heap.size+1:=by simp[FV]
 cases r with
 |nil=>
  have KA:Hid (∀a c,Ag Aa 216 #[.int .u16 (t:Int),.slice a 0 c] (FV w) (HsP (JZ t []) (FV w))):=fun a c=>eX t a c (FV w)
  obtain⟨OO,hOO⟩:∃OO,JZ t []=OO:=⟨_,rfl⟩;rw[hOO]at KA ⊢;simp only[CZ,Fg]at hc ⊢;by_cases hc1:c=1
  focus
   subst hc1;go_enter Tryz.func198,Tryz.ntmps198;go_wp2_with fail;have K:=Ac (KA.out (some ⟨b,o,none⟩) 0);have K':=Ac (KA.out (some ⟨b,o+2,none⟩) 0);have K'':=Ac (KA.out none 0);first|refine K.out.mono ?_|refine K'.out.mono ?_|refine K''.out.mono ?_
   rintro e w6 ⟨x,q,rfl,H6⟩;have HB6:Hid (Below (w.heap.size+1) (FV w) w6):=by rw[<- hs0];exact H6.out.1
   have hs6:w.heap.size+1<=w6.heap.size:=by have:=HB6.out.size;rw[hs0]at this;exact this
   have HRB:Hid (BD w6 w.heap.size Bo):=(HB6.out.block _ (by omega)).trans HZ.out.2;have HBW6:Hid (Blw w w6):=HZ.out.1.trans (HB6.out.mono (by omega));have HO:Hid (q=true->∃d,OO=some d/\Dd (w.heap.size+1) w6 x d):=by rw[<- hs0];exact H6.out.2.1
   have HO2:Hid (q=false->OO=none):=H6.out.2.2;have er0:=HRB.out.box.1;have er1:=HRB.out.box.2.1;have er2:=HRB.out.box.2.2.1;have er3:=HRB.out.box.2.2.2.1;have ez0:=HRB.out.fz 0;have ez1:=HRB.out.fz 1;have ez2:=HRB.out.fz 2;have ez3:=HRB.out.fz 3;simp only at er0 er1 er2 er3;clear K K' K'' KA H6 HB6
  rotate_left
  focus
   have hc2:¬ (c:Int) - 1=0:=by omega
   have hc1':¬ c - 1=0:=by omega
   go_enter Tryz.func198,Tryz.ntmps198;go_wp2_with fail;have K:=Ac (KA.out (some ⟨b,o+2,none⟩) (c - 1));refine K.out.mono ?_;rintro e w6 ⟨x,q,rfl,H6⟩;have HB6:Hid (Below (w.heap.size+1) (FV w) w6):=by rw[<- hs0];exact H6.out.1
   have hs6:w.heap.size+1<=w6.heap.size:=by have:=HB6.out.size;rw[hs0]at this;exact this
   have HRB:Hid (BD w6 w.heap.size Bo):=(HB6.out.block _ (by omega)).trans HZ.out.2;have HBW6:Hid (Blw w w6):=HZ.out.1.trans (HB6.out.mono (by omega));have HO:Hid (q=true->∃d,OO=some d/\Dd (w.heap.size+1) w6 x d):=by rw[<- hs0];exact H6.out.2.1
   have HO2:Hid (q=false->OO=none):=H6.out.2.2;have er0:=HRB.out.box.1;have er1:=HRB.out.box.2.1;have er2:=HRB.out.box.2.2.1;have er3:=HRB.out.box.2.2.2.1;have ez0:=HRB.out.fz 0;have ez1:=HRB.out.fz 1;have ez2:=HRB.out.fz 2;have ez3:=HRB.out.fz 3;simp only at er0 er1 er2 er3;clear K H6 HB6
  rotate_left
  all_goals
   go_wp2_with fail;have HX:Hid (BD (((WD3 w6 w.heap.size x).setCell ⟨w.heap.size,3,none⟩ (.slice x.p4.a x.p4.n x.p4.c))) w.heap.size x/\Blw w (((WD3 w6 w.heap.size x).setCell ⟨w.heap.size,3,none⟩ (.slice x.p4.a x.p4.n x.p4.c)))):=ret4 HRB.out HBW6.out (Ad _) x;have HX2:Hid (q=true->∃d,OO=some d/\Dd w.heap.size (((WD3 w6 w.heap.size x).setCell ⟨w.heap.size,3,none⟩ (.slice x.p4.a x.p4.n x.p4.c))) x d):=fun h=>by
    obtain⟨d,h1,h2⟩:=HO.out h;exact⟨d,h1,h2.ret4 (by omega) (by omega)⟩
   generalize (((WD3 w6 w.heap.size x).setCell ⟨w.heap.size,3,none⟩ (.slice x.p4.a x.p4.n x.p4.c)))=W9 at*;have z0:=HX.out.1.box.1;have z1:=HX.out.1.box.2.1;have z2:=HX.out.1.box.2.2.1;have z3:=HX.out.1.box.2.2.2.1;exact An (v:=.tuple #[.agg #[.slice x.p1.a x.p1.n x.p1.c,.slice x.p2.a x.p2.n x.p2.c,.slice x.p3.a x.p3.n x.p3.c,.slice x.p4.a x.p4.n x.p4.c],.bool q]) (by simp[AJ,OF,go_sem,z0,z1,z2,z3]) rfl ⟨x,q,rfl,⟨HX.out.2,HX2.out,HO2.out⟩⟩
 |cons p ps=>
  obtain⟨num,qn⟩:=p;have K:Hid (Ag Aa 216 #[.int .u16 (t:Int),.slice (some ⟨b,o+2,none⟩) (ps.length+1) (c - 1)] (FV w) (HsP (JZ t ((num,qn)::ps)) (FV w))):=uD t b (o+2) num qn ps (c - 1) (FV w) (hrr.below HZ.out.1) (by simp at hc;omega) (by omega) (hb5.2 (num,qn) (by simp)) (vP hb5.tail) (hE.below HZ.out.1);obtain⟨OO,hOO⟩:∃OO,JZ t ((num,qn)::ps)=OO:=⟨_,rfl⟩;rw[hOO]at K ⊢;simp only[AP]at hc ⊢;obtain⟨N,hN⟩:∃N,ps.length=N:=⟨_,rfl⟩;rw[hN]at hc K ⊢;have hN0:(0:Int)<(N:Int)+2:=by omega
  have hN9:(0:Int)<(N:Int)+1+1:=by omega
  have hc2:¬ (c:Int) - 1=0:=by omega
  have hc1':¬ c - 1=0:=by omega
  have hsub:N+1+1 - 1=N+1:=by omega
  have hsub2:(N:Int)+1+1 - 1=(N:Int)+1:=by omega
  go_enter Tryz.func198,Tryz.ntmps198;go_wp2_with fail;refine K.out.mono ?_;rintro e w6 ⟨x,q,rfl,H6⟩;have HB6:Hid (Below (w.heap.size+1) (FV w) w6):=by rw[<- hs0];exact H6.out.1
  have hs6:w.heap.size+1<=w6.heap.size:=by have:=HB6.out.size;rw[hs0]at this;exact this
  have HRB:Hid (BD w6 w.heap.size Bo):=(HB6.out.block _ (by omega)).trans HZ.out.2;have HBW6:Hid (Blw w w6):=HZ.out.1.trans (HB6.out.mono (by omega));have HO:Hid (q=true->∃d,OO=some d/\Dd (w.heap.size+1) w6 x d):=by rw[<- hs0];exact H6.out.2.1
  have HO2:Hid (q=false->OO=none):=H6.out.2.2;have er0:=HRB.out.box.1;have er1:=HRB.out.box.2.1;have er2:=HRB.out.box.2.2.1;have er3:=HRB.out.box.2.2.2.1;have ez0:=HRB.out.fz 0;have ez1:=HRB.out.fz 1;have ez2:=HRB.out.fz 2;have ez3:=HRB.out.fz 3;simp only at er0 er1 er2 er3;clear K H6 HB6;go_wp2_with fail;have HX:Hid (BD (((WD3 w6 w.heap.size x).setCell ⟨w.heap.size,3,none⟩ (.slice x.p4.a x.p4.n x.p4.c))) w.heap.size x/\Blw w (((WD3 w6 w.heap.size x).setCell ⟨w.heap.size,3,none⟩ (.slice x.p4.a x.p4.n x.p4.c)))):=ret4 HRB.out HBW6.out (Ad _) x;have HX2:Hid (q=true->∃d,OO=some d/\Dd w.heap.size (((WD3 w6 w.heap.size x).setCell ⟨w.heap.size,3,none⟩ (.slice x.p4.a x.p4.n x.p4.c))) x d):=fun h=>by
   obtain⟨d,h1,h2⟩:=HO.out h;exact⟨d,h1,h2.ret4 (by omega) (by omega)⟩
  generalize (((WD3 w6 w.heap.size x).setCell ⟨w.heap.size,3,none⟩ (.slice x.p4.a x.p4.n x.p4.c)))=W9 at*;have z0:=HX.out.1.box.1;have z1:=HX.out.1.box.2.1;have z2:=HX.out.1.box.2.2.1;have z3:=HX.out.1.box.2.2.2.1;exact An (v:=.tuple #[.agg #[.slice x.p1.a x.p1.n x.p1.c,.slice x.p2.a x.p2.n x.p2.c,.slice x.p3.a x.p3.n x.p3.c,.slice x.p4.a x.p4.n x.p4.c],.bool q]) (by simp[AJ,OF,go_sem,z0,z1,z2,z3]) rfl ⟨x,q,rfl,⟨HX.out.2,HX2.out,HO2.out⟩⟩
theorem tD(t:Nat)(a:Option Addr)(ws:List Wd)(c:Nat)(oa:Option Addr)(on oc:Nat)(og:List ByteArray)(w:Ab)(hw:RdW w a ws)(hc:ws.length<=c)(h63:c<=9223372036854775807)(hb:WB ws)(hog:Nm w oa on og)(hE:Cc w) :
  Ag Aa 198 #[.int .u16 (t:Int),.slice a ws.length c,.slice oa on oc] w (HsP (Ge t og ws) w):=by
 by_cases hh:ws.head?=some OD
 ·cases ws with
  |nil=>cases hh
  |cons p r=>
   simp only[List.head?_cons,Iq]at hh;subst hh;obtain⟨b,o,rfl,-⟩:=hw.head;have:=mB t b o r c oa on oc w hw hc h63 hb.tail hE;have e:Ge t og (OD::r)=JZ t r:=by unfold Ge;rw[if_pos (show(OD::r).head?=some OD from rfl)];rfl
   rw[e];exact this
 ·exact mO t a ws c oa on oc og w hh hw (fun w0 h0=>gA t w0 a ws c oa on oc og (hE.below h0) (hog.below h0) (hw.below h0) hc h63 hb)
def PsP(o:Option Dat)(w:Ab)(e:Ending)(w':Ab):Prop:=
 ∃(x:DA) (er:Int),e=.returned (.tuple #[.agg #[.slice x.p1.a x.p1.n x.p1.c,.slice x.p2.a x.p2.n x.p2.c,.slice x.p3.a x.p3.n x.p3.c,.slice x.p4.a x.p4.n x.p4.c],.int .i64 er])/\Hid (Blw w w'/\((er=0/\∃d,o=some d/\Dd w.heap.size w' x d)∨(er=7/\o=none/\x=Bo)))
theorem qI(t:Nat)(a:Option Addr)(ws:List Wd)(c:Nat)(oa:Option Addr)(on oc:Nat)(og:List ByteArray)(w:Ab)(hw:RdW w a ws)(hc:ws.length<=c)(h63:c<=9223372036854775807)(hb:WB ws)(hog:Nm w oa on og)(hE:Cc w)(hck:nck og=0)(hmay:Gz t=true) :
  Ag Aa 163 #[.int .u16 (t:Int),.slice a ws.length c,.slice oa on oc] w (PsP (Jq t og ws) w):=by
 have HZ:Hid (Blw w (w.alloc (.cells #[.slice none 0 0,.slice none 0 0,.slice none 0 0,.slice none 0 0] 41))/\BD (w.alloc (.cells #[.slice none 0 0,.slice none 0 0,.slice none 0 0,.slice none 0 0] 41)) w.heap.size Bo):=⟨Ah _ _,Au _ _⟩;have hs0:w.heap.size<(w.alloc (.cells #[.slice none 0 0,.slice none 0 0,.slice none 0 0,.slice none 0 0] 41)).heap.size:=by simp
 have KN:Hid (Ag Aa 19 #[.slice oa on oc] (w.alloc (.cells #[.slice none 0 0,.slice none 0 0,.slice none 0 0,.slice none 0 0] 41)) fun e w'=>e=.returned (.int .i64 0)/\w'=(w.alloc (.cells #[.slice none 0 0,.slice none 0 0,.slice none 0 0,.slice none 0 0] 41))):=by
  have:=Gy oc (hog.below HZ.out.1);rw[hck]at this;exact this
 have KH:Hid (∀W,Ag Aa 197 #[.int .u16 (t:Int)] W fun e w'=>e=.returned (.bool true)/\w'=W):=fun W=>by have:=fL t W;rw[hmay]at this;exact this
 have K:Hid (Ag Aa 198 #[.int .u16 (t:Int),.slice a ws.length c,.slice oa on oc] (w.alloc (.cells #[.slice none 0 0,.slice none 0 0,.slice none 0 0,.slice none 0 0] 41)) (HsP (Ge t og ws) (w.alloc (.cells #[.slice none 0 0,.slice none 0 0,.slice none 0 0,.slice none 0 0] 41)))):=tD t a ws c oa on oc og _ (hw.below HZ.out.1) hc h63 hb (hog.below HZ.out.1) (hE.below HZ.out.1);have KC:Hid (∀W x d,Ge t og ws=some d->DRd W x d->Ag Aa 63 #[.int .u16 (t:Int),.agg #[.slice x.p1.a x.p1.n x.p1.c,.slice x.p2.a x.p2.n x.p2.c,.slice x.p3.a x.p3.n x.p3.c,.slice x.p4.a x.p4.n x.p4.c]] W fun e w'=>e=.returned (.int .i64 (Bw t d))/\Hid (Blw W w')):=fun W x d hd hW=>MG t x d W hW (tK hb hd)
 have HPR:Hid (Jq t og ws=(Ge t og ws).bind fun d=>if Bw t d=0 then some d else none):=rfl;generalize Ge t og ws=OO at*;generalize Jq t og ws=PP at*;obtain⟨len,hlen⟩:∃len,ws.length=len:=⟨_,rfl⟩;rw[hlen]at K ⊢;clear hw hc h63 hb hog hE hck hmay hlen;go_enter Tryz.func163,Tryz.ntmps163;generalize hw0:w.alloc (.cells #[.slice none 0 0,.slice none 0 0,.slice none 0 0,.slice none 0 0] 41)=w0 at*;go_wp2_with fail;try rw[hw0]
 refine KN.out.mono ?_;rintro e w1 ⟨rfl,rfl⟩;go_wp2_with fail;refine(KH.out _).mono ?_;rintro e w2 ⟨rfl,rfl⟩;go_wp2_with fail;refine K.out.mono ?_;rintro e w3 ⟨x,q,rfl,H3⟩;obtain _|_:=q
 ·have HP0:Hid (PP=none):=by show _=_;rw[HPR.out,H3.out.2.2 rfl];rfl
  have HB34:Hid (Blw w3 (w3.alloc (cDx x))):=Ah _ _;have hs3:=Ap hs0 H3.out.1.size;have HRB:Hid (BD w3 w.heap.size Bo):=(H3.out.1.block _ hs0).trans HZ.out.2;have HBW:Hid (Blw w w3):=HZ.out.1.trans (H3.out.1.mono (by omega));have er0:=HRB.out.box.1;have er1:=HRB.out.box.2.1;have er2:=HRB.out.box.2.2.1;have er3:=HRB.out.box.2.2.2.1;have ez0:=HRB.out.fz 0;have ez1:=HRB.out.fz 1;have ez2:=HRB.out.fz 2;have ez3:=HRB.out.fz 3;simp only at er0 er1 er2 er3;have hne1:¬ w.heap.size=w3.heap.size:=by omega
  have hne2:¬ w3.heap.size=w.heap.size:=by omega
  clear KN KH K HZ H3 KC HPR;go_wp2_with fail;have HX0:Hid (BD (((WZ3 w3 w.heap.size).setCell ⟨w.heap.size,3,none⟩ (.slice none 0 0))) w.heap.size Bo/\Blw w (((WZ3 w3 w.heap.size).setCell ⟨w.heap.size,3,none⟩ (.slice none 0 0)))):=ret4 HRB.out HBW.out (Ad _) Bo;generalize hG:((((WZ3 w3 w.heap.size).setCell ⟨w.heap.size,3,none⟩ (.slice none 0 0))).alloc (cDx x))=W9 at*;have HX:Hid (BD W9 w.heap.size Bo/\Blw w W9):=by subst hG;exact⟨((Ah (((WZ3 w3 w.heap.size).setCell ⟨w.heap.size,3,none⟩ (.slice none 0 0))) (cDx x)).block _ HX0.out.1.lt).trans HX0.out.1,HX0.out.2.trans ((Ah (((WZ3 w3 w.heap.size).setCell ⟨w.heap.size,3,none⟩ (.slice none 0 0))) (cDx x)).mono HX0.out.2.size)⟩
  clear hG;have z0:=HX.out.1.box.1;have z1:=HX.out.1.box.2.1;have z2:=HX.out.1.box.2.2.1;have z3:=HX.out.1.box.2.2.2.1;exact An (v:=.tuple #[.agg #[.slice none 0 0,.slice none 0 0,.slice none 0 0,.slice none 0 0],.int .i64 7]) (by simp[AJ,Tryz.results163,go_sem,z0,z1,z2,z3]) rfl ⟨Bo,7,rfl,⟨HX.out.2,.inr ⟨rfl,HP0.out,rfl⟩⟩⟩
 ·obtain⟨d,hd1,hd2⟩:=H3.out.2.1 rfl;have HD1:Hid (OO=some d):=hd1;have HD2:Hid (Dd w2.heap.size w3 x d):=hd2;have HN:Hid (DRd (w3.alloc (cDx x)) x d/\Blw w3 (w3.alloc (cDx x))):=⟨hd2.rd.below (Ah _ _),Ah _ _⟩;clear hd1 hd2;go_wp2_with fail;refine(KC.out _ x d HD1.out HN.out.1).mono ?_;rintro e w4 ⟨rfl,H4⟩;have HD:Hid (BD w4 w3.heap.size x):=(H4.out.block _ (by simp)).trans (Au _ _);have d0:w4.cell? ⟨w3.heap.size,0,none⟩=_:=HD.out.box.1;have d1:w4.cell? ⟨w3.heap.size,1,none⟩=_:=HD.out.box.2.1;have d2:w4.cell? ⟨w3.heap.size,2,none⟩=_:=HD.out.box.2.2.1;have d3:w4.cell? ⟨w3.heap.size,3,none⟩=_:=HD.out.box.2.2.2.1;have HB34:Hid (Blw w3 w4):=HN.out.2.trans (H4.out.mono HN.out.2.size);have HRB:Hid (BD w4 w.heap.size Bo):=(HB34.out.block _ (Ap hs0 H3.out.1.size)).trans ((H3.out.1.block _ hs0).trans HZ.out.2);have HBW:Hid (Blw w w4):=(HZ.out.1.trans (H3.out.1.mono (by omega))).trans (HB34.out.mono (by have:=H3.out.1.size;omega));have HO:Hid (Dd w2.heap.size w4 x d):=HD2.out.stays HB34.out;have hne1:¬ w.heap.size=w3.heap.size:=by have:=H3.out.1.size;omega
  have hne2:¬ w3.heap.size=w.heap.size:=by omega
  have HPY:Hid (Bw t d=0->PP=some d):=fun h=>by rw[HPR.out,HD1.out];simp[h]
  have HPN:Hid (¬ Bw t d=0->PP=none):=fun h=>by rw[HPR.out,HD1.out];simp[h]
  have er0:=HRB.out.box.1;have er1:=HRB.out.box.2.1;have er2:=HRB.out.box.2.2.1;have er3:=HRB.out.box.2.2.2.1;have ez0:=HRB.out.fz 0;have ez1:=HRB.out.fz 1;have ez2:=HRB.out.fz 2;have ez3:=HRB.out.fz 3;simp only at er0 er1 er2 er3;clear KN KH K KC HN H4 HB34 HZ H3 HD HPR HD1 HD2;generalize Bw t d=ck at*;by_cases hk:ck=0
  ·subst hk;go_wp2_with fail;generalize hG:(((WD3 w4 w.heap.size x).setCell ⟨w.heap.size,3,none⟩ (.slice x.p4.a x.p4.n x.p4.c)))=W9 at*;have HX:Hid (BD W9 w.heap.size x/\Dd w.heap.size W9 x d/\Blw w W9):=by subst hG;exact⟨(ret4 HRB.out HBW.out (Ad _) x).1,HO.out.ret4 hs0 (Nat.le_of_lt hs0),(ret4 HRB.out HBW.out (Ad _) x).2⟩
   clear hG;have z0:=HX.out.1.box.1;have z1:=HX.out.1.box.2.1;have z2:=HX.out.1.box.2.2.1;have z3:=HX.out.1.box.2.2.2.1;exact An (v:=.tuple #[.agg #[.slice x.p1.a x.p1.n x.p1.c,.slice x.p2.a x.p2.n x.p2.c,.slice x.p3.a x.p3.n x.p3.c,.slice x.p4.a x.p4.n x.p4.c],.int .i64 0]) (by simp[AJ,Tryz.results163,go_sem,z0,z1,z2,z3]) rfl ⟨x,0,rfl,⟨HX.out.2.2,.inl ⟨rfl,d,HPY.out (by simp),HX.out.2.1⟩⟩⟩
  ·have hk2:(ck == 0)=false:=by simpa using hk
   have hk3:(ck != 0)=true:=by simpa using hk
   go_wp2_with fail;generalize hG:(((WZ3 w4 w.heap.size).setCell ⟨w.heap.size,3,none⟩ (.slice none 0 0)))=W9 at*;have HX:Hid (BD W9 w.heap.size Bo/\Blw w W9):=by subst hG;exact ret4 HRB.out HBW.out (Ad _) Bo
   clear hG;have z0:=HX.out.1.box.1;have z1:=HX.out.1.box.2.1;have z2:=HX.out.1.box.2.2.1;have z3:=HX.out.1.box.2.2.2.1;exact An (v:=.tuple #[.agg #[.slice none 0 0,.slice none 0 0,.slice none 0 0,.slice none 0 0],.int .i64 7]) (by simp[AJ,Tryz.results163,go_sem,z0,z1,z2,z3]) rfl ⟨Bo,7,rfl,⟨HX.out.2,.inr ⟨rfl,HPN.out hk,rfl⟩⟩⟩
def Box(w:Ab)(b:Nat)(s pre:ByteArray)(Cg:Int):Prop:=
 w.cell? ⟨b,0,none⟩=some (.string s)/\w.cell? ⟨b,1,none⟩=some (.string pre)/\w.cell? ⟨b,2,none⟩=some (.int .i64 Cg)/\b<w.heap.size
theorem Box.new(w:Ab)(s pre:ByteArray)(Cg:Int):Box (w.alloc (.cells #[.string s,.string pre,.int .i64 Cg] 159)) w.heap.size s pre Cg:=by
 refine⟨?_,?_,?_,by simp⟩ <;> (unfold Az;rw[Au];rfl)
theorem Box.below{w w':Ab}{b:Nat}{s pre:ByteArray}{Cg:Int}(h:Box w b s pre Cg)(hb:Blw w w'):Box w' b s pre Cg:=
 ⟨(hb.cell (p:=⟨b,0,none⟩) h.2.2.2).trans h.1,(hb.cell (p:=⟨b,1,none⟩) h.2.2.2).trans h.2.1,(hb.cell (p:=⟨b,2,none⟩) h.2.2.2).trans h.2.2.1,Ap h.2.2.2 hb.size⟩
theorem qK(a:ByteArray)(l:List UInt8):a++(⟨l.toArray⟩:ByteArray)=⟨(a.data.toList++l).toArray⟩:=by
 apply ByteArray.ext
 simp
def Res(o:Option Nat)(x y:Int):Prop:=(∀n,o=some n->x=(n:Int)/\y=0)/\(o=none->x=0/\y=6)
theorem Res.no{o:Option Nat}(h:o=none):Res o 0 6:=⟨fun n hn=>(by rw[h]at hn;cases hn),fun _=>⟨rfl,rfl⟩⟩
theorem Res.yes{o:Option Nat}{n:Nat}(h:o=some n):Res o (n:Int) 0:=⟨fun m hm=>(by rw[h]at hm;cases hm;exact⟨rfl,rfl⟩),fun hn=>(by rw[h]at hn;cases hn)⟩
theorem gJ(s pre:ByteArray)(Cg:Nat)(hm:Cg<65536)(t:ByteArray)(ht:t.size<=140737488355328)(w:Ab)(hL:Bk w)(hE:Cc w) :
  Ag Aa 242 #[.agg #[.string s,.string pre,.int .i64 Cg],.string t] w fun e w'=>∃x y,e=.returned (.tuple #[.int .i64 x,.int .i64 y])/\Hid (Res (NW t.data.toList (Cg+1)) x y)/\Hid (Blw w w'):=by
 have HL:Hid (Bk w):=hL;have HX:Hid (Box (w.alloc (.cells #[.string s,.string pre,.int .i64 Cg] 159)) w.heap.size s pre Cg):=Box.new w s pre Cg;have HB:Hid (Blw w (w.alloc (.cells #[.string s,.string pre,.int .i64 Cg] 159))):=(Ae _ _).alloc (Ad _) _;have HE:Hid (Cc (w.alloc (.cells #[.string s,.string pre,.int .i64 Cg] 159))):=hE.below HB.out;clear hL hE;cases ha:MY t.data.toList with
 |ok v=>
  have HA:Hid (MY t.data.toList=.ok v):=ha;clear ha;go_enter Tryz.func242,Tryz.ntmps242;go_wp2_with fail;generalize (w.alloc (.cells #[.string s,.string pre,.int .i64 Cg] 159))=W1 at*;refine(Tryz.strconv_Atoi_ok t (by omega) v HA.out W1).mono ?_;rintro e W2 ⟨rfl,hW2⟩;have H2:Hid (Blw W1 W2):=by
   obtain rfl|⟨u,rfl⟩:=hW2
   ·exact Ae _ _
   ·exact Hq _ _ _
  clear hW2;have HX2:Hid (Box W2 w.heap.size s pre Cg):=HX.out.below H2.out;have HB2:Hid (Blw w W2):=HB.out.trans (H2.out.mono HB.out.size);have c2:=HX2.out.2.2.1;clear HX HB H2 HE;have HD:Hid (∀n,n<Cg+1->t.data.toList=Bv n->v=(n:Int)):=by
   intro n hn he;have:=HA.out;rw[he,Sj n (by omega)]at this;injection this with this
   exact this.symm
  by_cases h1:v<0
  ·go_wp2_with fail;go_ret2;refine⟨_,_,rfl,⟨?_,fun _=>⟨rfl,rfl⟩⟩,HB2.out⟩;intro n hn;obtain⟨e1,e2⟩:=Ke hn;have:=HD.out n e2 e1;omega
  ·by_cases h2:(Cg:Int)<v
   ·go_wp2_with fail;go_ret2;refine⟨_,_,rfl,⟨?_,fun _=>⟨rfl,rfl⟩⟩,HB2.out⟩;intro n hn;obtain⟨e1,e2⟩:=Ke hn;have:=HD.out n e2 e1;omega
   ·obtain⟨n,rfl⟩:∃n:Nat,v=(n:Int):=⟨v.toNat,by omega⟩;go_wp2_with fail;refine(Ou n (by omega) W2 (HL.out.below HB2.out)).mono ?_;rintro e W3 ⟨rfl,H3⟩;have HB3:Hid (Blw w W3):=HB2.out.trans (H3.out.mono HB2.out.size);clear HX2 HB2 H3 c2;by_cases h3:Bv n=t.data.toList
    ·have hq:(Bv n == t.toList)=true:=by rw[Ip,h3];simp
     have HQ:Hid (NW t.data.toList (Cg+1)=some n):=by
      show _=_;rw[<- h3];exact OB n _ (by omega)
     clear h3;go_wp2_with fail;go_ret2;exact⟨_,_,rfl,Res.yes HQ.out,HB3.out⟩
    ·have hq:(Bv n == t.toList)=false:=by
      rw[Ip];cases h:Bv n == t.data.toList with
      |false=>rfl
      |true=>exact absurd (eq_of_beq h) h3
     have HQ:Hid (NW t.data.toList (Cg+1)=none):=by
      refine Pq fun k hk he=>?_
      have:=HD.out k hk he;have e:n=k:=by omega
      subst e;exact h3 he.symm
     clear h3;go_wp2_with fail;go_ret2;exact⟨_,_,rfl,Res.no HQ.out,HB3.out⟩
 |«syntax»=>
  have HQ:Hid (NW t.data.toList (Cg+1)=none):=by
   refine Pq fun k hk he=>?_
   rw[he,Sj k (by omega)]at ha;cases ha
  have HA:Hid (MY t.data.toList=.«syntax»):=ha;clear ha;go_enter Tryz.func242,Tryz.ntmps242;go_wp2_with fail;generalize (w.alloc (.cells #[.string s,.string pre,.int .i64 Cg] 159))=W1 at*;obtain⟨tp,p,hv⟩:=HE.out.1;refine(Tryz.strconv_Atoi_syntax_var t (by omega) HA.out tp p W1 hv).mono ?_;rintro e W2 ⟨N,rfl,-,-,hb⟩;have HB2:Hid (Blw w W2):=HB.out.trans (hb.mono HB.out.size);clear hv hb HX HB HE;go_wp2_with fail;go_ret2;exact⟨_,_,rfl,Res.no HQ.out,HB2.out⟩
 |range=>
  have HQ:Hid (NW t.data.toList (Cg+1)=none):=by
   refine Pq fun k hk he=>?_
   rw[he,Sj k (by omega)]at ha;cases ha
  have HA:Hid (MY t.data.toList=.range):=ha;clear ha;go_enter Tryz.func242,Tryz.ntmps242;go_wp2_with fail;generalize (w.alloc (.cells #[.string s,.string pre,.int .i64 Cg] 159))=W1 at*;obtain⟨tp,p,hv⟩:=HE.out.2.1;refine(Tryz.strconv_Atoi_range_var t (by omega) HA.out tp p W1 hv).mono ?_;rintro e W2 ⟨N,rfl,-,-,hb⟩;have HB2:Hid (Blw w W2):=HB.out.trans (hb.mono HB.out.size);clear hv hb HX HB HE;generalize Lib.atoiSat t.data.toList=v;go_wp2_with fail;go_ret2;exact⟨_,_,rfl,Res.no HQ.out,HB2.out⟩
theorem WJ(s pre:ByteArray)(Cg:Int)(ps:GE)(t:ByteArray)(w:Ab)(hK:KOk s ps)(hL:Bk w) :
  Ag Aa 240 #[.agg #[.string s,.string pre,.int .i64 Cg],.string t] w fun e w'=>∃(l:List UInt8) (b:Bool),e=.returned (.tuple #[.string ⟨l.toArray⟩,.bool b])/\Hid (Qb ps pre.data.toList t.data.toList=if b then some l else none)/\Hid (Blw w w'):=by
 have HL:Hid (Bk w):=hL;have HK:Hid (KOk s ps):=hK;have HX:Hid (Box (w.alloc (.cells #[.string s,.string pre,.int .i64 Cg] 159)) w.heap.size s pre Cg):=Box.new w s pre Cg;have HB:Hid (Blw w (w.alloc (.cells #[.string s,.string pre,.int .i64 Cg] 159))):=(Ae _ _).alloc (Ad _) _;clear hL hK;go_enter Tryz.func240,Tryz.ntmps240;go_wp2_with fail;generalize (w.alloc (.cells #[.string s,.string pre,.int .i64 Cg] 159))=W1 at*;refine(RQ s ps W1 HK.out (HL.out.below HB.out)).mono ?_;rintro e W3 ⟨rfl,H3⟩;have HX3:Hid (Box W3 w.heap.size s pre Cg):=HX.out.below H3.out.1;have HB3:Hid (Blw w W3):=HB.out.trans (H3.out.1.mono HB.out.size);have HC:Hid (∀j p,ps[j]?=some p->W3.cell? ⟨W1.heap.size,2*j,none⟩=some (.string ⟨p.1.toArray⟩)/\W3.cell? ⟨W1.heap.size,2*j+1,none⟩=some (.string ⟨(Bv p.2).toArray⟩)):=H3.out.2;have hN:=HK.out.2.2.2.1;obtain⟨N,eN⟩:∃N,ps.length=N:=⟨_,rfl⟩;have HN:Hid (ps.length=N):=eN;rw[eN]at hN ⊢;clear HX HB H3 eN HK;generalize W1.heap.size=g at*;go_wp2_with fail;go_loopw [7] (fun x wr=>wr=W3/\∃j:Nat,j<=N/\x=.int .i64 ((2*j+1:Nat):Int)/\Hid (∀p∈ps.take j,(p.1 == t.data.toList)=false)) (fun x _=>2*N+1 - (intOf x).toNat)
 case atStart=>exact⟨rfl,0,Aw _,rfl,by intro p hp;simp at hp⟩
 case round=>
  obtain⟨rfl,j,hj,rfl,HF⟩:=hrel;obtain⟨i,ei⟩:∃i:Nat,2*j+1=i:=⟨_,rfl⟩;by_cases hlt:j<N
  ·obtain⟨p,hp⟩:∃p,ps[j]?=some p:=⟨_,AF (by rw[HN.out];exact hlt)⟩;obtain⟨c1,c2⟩:=HC.out j p hp;rw[ei]at c2 ⊢;have hb1:(i:Int)<((2*N:Nat):Int):=by omega
   have hs1:CV.wrap ((i:Int) - 1)=((2*j:Nat):Int):=by rw[BZ];omega
   have hs2:(((2*j:Nat):Int))<((2*N:Nat):Int):=by omega
   have HS:Hid (((p.1 == t.data.toList)=true->ps.find? (fun q=>q.1 == t.data.toList)=some p)/\((p.1 == t.data.toList)=false->∀q∈ps.take (j+1),(q.1 == t.data.toList)=false)):=TH (fun(q:List UInt8 × Nat)=>q.1 == t.data.toList) ps j HF.out p hp;obtain⟨m,hm⟩:∃m,2*j=m:=⟨_,rfl⟩;rw[hm]at c1 hs1 hs2;cases he:p.1 == t.data.toList with
   |true=>
    have hq:(p.1 == t.toList)=true:=by rw[Ip];exact he
    have HS1:=HS.out.1 he;have HS2:Hid (ps.find? (fun q=>q.1 == t.data.toList)=some p):=HS1;clear HS HS1 he;go_wp2_with fail;go_ret2;refine⟨_,_,rfl,?_,HB3.out⟩;show _=_;have:=HS2.out;simp[Qb,this]
   |false=>
    have hq:(p.1 == t.toList)=false:=by rw[Ip];exact he
    have HS2:Hid (∀q∈ps.take (j+1),(q.1 == t.data.toList)=false):=HS.out.2 he;clear HS he c2;go_wp2_with fail;refine⟨⟨by first|rfl|trivial,j+1,by omega,?_,HS2⟩,?_⟩
    ·rw[<- ei];go_num
    ·simp[intOf];omega
  ·have hjN:j=N:=by omega
   have hb1:¬ (i:Int)<((2*N:Nat):Int):=by omega
   have HT:Hid (ps.find? (fun(q:List UInt8 × Nat)=>q.1 == t.data.toList)=none):=VO (fun(q:List UInt8 × Nat)=>q.1 == t.data.toList) ps j HF.out (by rw[HN.out];omega);have c1:=HX3.out.2.1;rw[ei];clear HF HC;go_wp2_with fail;refine(Tryz.strings_CutPrefix t pre wr).mono ?_;rintro e W4 ⟨rfl,rfl⟩;go_wp2_with fail;go_ret2;refine⟨_,_,rfl,?_,HB3.out⟩;show _=_;have:=HT.out;simp only[Qb,this,Lib.trimPrefix,Lib.hasPrefix];split <;> simp_all
def up(t:ByteArray):ByteArray:=⟨(txt ((Ai t).map uz)).toArray⟩
theorem mX(t:ByteArray):(up t).size=t.size:=by
 show(txt ((Ai t).map uz)).toArray.size=t.size;rw[List.size_toArray,II,AS,Av]
theorem eF(ps:GE)(pre t l:List UInt8)(hp:∀p∈ps,p.2<65536)(h:Qb ps pre t=some l):l.length<=t.length+5:=by
 unfold Qb at h;split at h
 ·rename_i p hf
  have:=Ol p.2 (by have:=hp p (EE hf);omega);cases h;omega
 ·split at h
  ·cases h;simp;omega
  ·cases h
theorem RU(s pre:ByteArray)(Cg:Nat)(hm:Cg<65536)(ps:GE)(t:ByteArray)(ht:t.size<=140737488355000)(w:Ab)(hK:KOk s ps)(hL:Bk w)(hE:Cc w) :
  Ag Aa 225 #[.agg #[.string s,.string pre,.int .i64 Cg],.string t] w fun e w'=>∃x y,e=.returned (.tuple #[.int .i64 x,.int .i64 y])/\Hid (Res (Fo ps pre.data.toList (Cg+1) (up t).data.toList) x y)/\Hid (Below w.heap.size w w'):=by
 have HL:Hid (Bk w/\Cc w):=⟨hL,hE⟩;have HK:Hid (KOk s ps):=hK;have HX:Hid (Box (w.alloc (.cells #[.string s,.string pre,.int .i64 Cg] 159)) w.heap.size s pre Cg):=Box.new w s pre Cg;have HB:Hid (Below w.heap.size w (w.alloc (.cells #[.string s,.string pre,.int .i64 Cg] 159))):=(Ae _ _).alloc (Ad _) _;clear hL hK hE;go_enter Tryz.func225,Tryz.ntmps225;go_wp2_with fail;generalize (w.alloc (.cells #[.string s,.string pre,.int .i64 Cg] 159))=W1 at*;have HLd:Hid (Bk W1.drew/\Cc W1.drew):=⟨HL.out.1.below HB.out.drew,HL.out.2.below HB.out.drew⟩;have HBd:Hid (Below w.heap.size w W1.drew/\w.heap.size<=W1.drew.heap.size):=⟨HB.out.drew,HB.out.size⟩;have c0:=HX.out.1;have c1:=HX.out.2.1;have c2:=HX.out.2.2.1;have hbl:=HX.out.2.2.2;have HG:Hid (∀w',Below w.heap.size w w'->w.heap.size=w.heap.size):=fun _ _=>rfl
 have KG:Hid (∀W,Ag Aa 241 #[.string t] W fun e w'=>e=.returned (.string (up t))/\Hid (Below W.heap.size W w')):=fun W=>aG t W (by omega)
 have KD:Hid (∀W,Bk W->Ag Aa 240 #[.agg #[.string s,.string pre,.int .i64 Cg],.string (up t)] W fun e w'=>∃(l:List UInt8) (b:Bool),e=.returned (.tuple #[.string ⟨l.toArray⟩,.bool b])/\Hid (Qb ps pre.data.toList (up t).data.toList=if b then some l else none)/\Hid (Below W.heap.size W w')):=fun W h=>WJ s pre Cg ps (up t) W HK.out h
 clear HL HB HX HG;obtain⟨b,hb⟩:∃b,b=w.heap.size:=⟨_,rfl⟩;rw[<- hb]at c0 c1 c2 hbl HBd ⊢;have Hb:Hid (b=w.heap.size):=hb;clear hb
 go_region_held3 (fun W=>W.cell? ⟨b,0,none⟩=some (.string s)/\W.cell? ⟨b,1,none⟩=some (.string pre)/\W.cell? ⟨b,2,none⟩=some (.int .i64 Cg)) (go_keep) (first
  |(go_at_call 241;refine(KG.out _).mono ?_;rintro e W2 ⟨rfl,H2⟩;have d0:W2.cell? ⟨b,0,none⟩=some (.string s):=(H2.out.cell (p:=⟨b,0,none⟩) hbl).trans c0;have d1:W2.cell? ⟨b,1,none⟩=some (.string pre):=(H2.out.cell (p:=⟨b,1,none⟩) hbl).trans c1;have d2:W2.cell? ⟨b,2,none⟩=some (.int .i64 Cg):=(H2.out.cell (p:=⟨b,2,none⟩) hbl).trans c2;have HL2:Hid (Bk W2/\Cc W2):=⟨HLd.out.1.below H2.out,HLd.out.2.below H2.out⟩;have HB2:Hid (Below b w W2/\b<W2.heap.size):=⟨HBd.out.1.trans (H2.out.mono HBd.out.2),Ap hbl H2.out.size⟩;clear H2)
  |(go_at_call 240;refine(KD.out _ HL2.out.1).mono ?_;rintro e W3 ⟨l,q,rfl,HD,H3⟩;have e0:W3.cell? ⟨b,0,none⟩=some (.string s):=(H3.out.cell (p:=⟨b,0,none⟩) HB2.out.2).trans d0;have e1:W3.cell? ⟨b,1,none⟩=some (.string pre):=(H3.out.cell (p:=⟨b,1,none⟩) HB2.out.2).trans d1;have e2:W3.cell? ⟨b,2,none⟩=some (.int .i64 Cg):=(H3.out.cell (p:=⟨b,2,none⟩) HB2.out.2).trans d2;have HL3:Hid (Bk W3/\Cc W3):=⟨HL2.out.1.below H3.out,HL2.out.2.below H3.out⟩;have HB3:Hid (Below b w W3):=HB2.out.1.trans (H3.out.mono (Nat.le_of_lt HB2.out.2))))
 clear c0 c1 c2 d0 d1 d2 HLd HBd KG KD HL2 HB2 H3 hbl;cases q with
 |false=>
  go_wp2_with fail;go_ret2;refine⟨_,_,rfl,Res.no ?_,by rw[<- Hb.out];exact HB3.out⟩;unfold Fo;rw[HD.out]
  rfl
 |true=>
  have hd:Qb ps pre.data.toList (up t).data.toList=some l:=HD.out;have hl:(⟨l.toArray⟩:ByteArray).size<=140737488355328:=by
   have:=eF ps pre.data.toList (up t).data.toList l HK.out.2.2.2.2 hd;have e1:(up t).data.toList.length=t.size:=(Lib.size_eq _).symm.trans (mX t);show l.toArray.size<=_;rw[List.size_toArray];omega
  have HR:Hid (Fo ps pre.data.toList (Cg+1) (up t).data.toList=NW l (Cg+1)):=by
   show Fo _ _ _ _=_;unfold Fo;rw[hd];rfl
  clear HD hd;go_wp2_with fail;refine(gJ s pre Cg hm ⟨l.toArray⟩ hl W3 HL3.out.1 HL3.out.2).mono ?_;rintro e W4 ⟨x,y,rfl,HQ,H4⟩;clear e0 e1 e2;go_wp2_with fail;go_ret2;exact⟨_,_,rfl,by rw[HR.out];exact HQ.out,by rw[<- Hb.out];exact HB3.out.trans (H4.out.mono (by rw[Hb.out];rw[Hb.out]at HB3;exact HB3.out.size))⟩
def Ph:ByteArray:=⟨#[65,32,49,32,78,83,32,50,32,67,78,65,77,69,32,53,32,83,79,65,32,54,32,80,84,82,32,49,50,32,77,88,32,49,53,32,84,88,84,32,49,54,32,65,65,65,65,32,50,56,32,83,82,86,32,51,51,32,79,80,84,32,52,49,32,65,78,89,32,50,53,53,32,67,65,65,32,50,53,55]⟩
def FW:ByteArray:=⟨#[84,89,80,69]⟩
def Fj:GE:=[([65],1),([78,83],2),([67,78,65,77,69],5),([83,79,65],6),([80,84,82],12),([77,88],15),([84,88,84],16),([65,65,65,65],28),([83,82,86],33),([79,80,84],41),([65,78,89],255),([67,65,65],257)]
theorem Zs:KOk Ph Fj:=by
 refine⟨by decide +kernel,?_,?_,by decide,by decide⟩
 ·intro j b h;have:∀x∈Ph.data.toList,x.toNat<128:=by decide +kernel
  exact this b (NO h)
 ·have e:Md Fj=[[65],[49],[78,83],[50],[67,78,65,77,69],[53],[83,79,65],[54],[80,84,82],[49,50],[77,88],[49,53],[84,88,84],[49,54],[65,65,65,65],[50,56],[83,82,86],[51,51],[79,80,84],[52,49],[65,78,89],[50,53,53],[67,65,65],[50,53,55]]:=by simp[Md,Fj,IM,MC]
  rw[e];decide +kernel
theorem TM(w:Ab):Ag Aa 114 #[] w fun e w'=>e=.returned (.agg #[.string Ph,.string FW,.int .i64 (65535:Nat)])/\Hid (Blw w w'):=by
 go_enter Tryz.func114,Tryz.ntmps114;go_wp2_with fail;refine An (v:=.agg #[.string Ph,.string FW,.int .i64 (65535:Nat)]) (by simp[AJ,Tryz.results114,go_sem];exact⟨rfl,rfl⟩) rfl ⟨rfl,?_⟩;exact(Ae _ _).alloc (Ad _) _
def Ki:ByteArray:=⟨#[73,78,32,49,32,67,72,32,51,32,72,83,32,52,32,78,79,78,69,32,50,53,52,32,65,78,89,32,50,53,53]⟩
def Cm:ByteArray:=⟨#[67,76,65,83,83]⟩
def CO:GE:=[([73,78],1),([67,72],3),([72,83],4),([78,79,78,69],254),([65,78,89],255)]
theorem Ts:KOk Ki CO:=by
 refine⟨by decide +kernel,?_,?_,by decide,by decide⟩
 ·intro j b h;have:∀x∈Ki.data.toList,x.toNat<128:=by decide +kernel
  exact this b (NO h)
 ·have e:Md CO=[[73,78],[49],[67,72],[51],[72,83],[52],[78,79,78,69],[50,53,52],[65,78,89],[50,53,53]]:=by simp[Md,CO,IM,MC]
  rw[e];decide +kernel
theorem PJ(w:Ab):Ag Aa 151 #[] w fun e w'=>e=.returned (.agg #[.string Ki,.string Cm,.int .i64 (65535:Nat)])/\Hid (Blw w w'):=by
 go_enter Tryz.func151,Tryz.ntmps151;go_wp2_with fail;refine An (v:=.agg #[.string Ki,.string Cm,.int .i64 (65535:Nat)]) (by simp[AJ,Tryz.results151,go_sem];exact⟨rfl,rfl⟩) rfl ⟨rfl,?_⟩;exact(Ae _ _).alloc (Ad _) _
theorem Vd(ps:GE)(pre:List UInt8)(below:Nat)(s:List UInt8)(n:Nat)(h:Fo ps pre below s=some n):n<below:=by
 unfold Fo at h;cases hd:Qb ps pre s with
 |none=>rw[hd]at h;cases h
 |some l=>rw[hd]at h;exact(Ke h).2
theorem kD(o:Option Nat)(x y:Int){b:Nat}(h:∀n,o=some n->n<b)(hr:Res o x y):0<=x/\(x<b∨x=0):=by
 cases ho:o with
 |none=>have:=(hr.2 ho).1;omega
 |some n=>have:=(hr.1 n ho).1;have:=h n ho;omega
theorem Tv(t:ByteArray)(ht:t.size<=140737488355000)(w:Ab)(hL:Bk w)(hE:Cc w):Ag Aa 224 #[.string t] w fun e w'=>∃x y,e=.returned (.tuple #[.int .u16 x,.int .i64 y])/\Hid (Res (Fo Fj FW.data.toList 65536 (up t).data.toList) x y)/\Hid (Blw w w'):=by
 have HL:Hid (Bk w/\Cc w):=⟨hL,hE⟩;clear hL hE;go_enter Tryz.func224,Tryz.ntmps224;go_wp2_with fail;refine(TM w).mono ?_;rintro e W1 ⟨rfl,H1⟩;go_wp2_with fail;refine(RU Ph FW 65535 (by decide) Fj t ht W1 Zs (HL.out.1.below H1.out) (HL.out.2.below H1.out)).mono ?_;rintro e W2 ⟨x,y,rfl,HR,H2⟩;have hw:IntKind.u16.wrap x=x:=by
  have hb:=kD _ x y (fun n hn=>Vd Fj _ 65536 _ n hn) HR.out;rw[IntKind.wrap_u16];omega
 go_wp2_with fail;go_ret2;exact⟨_,_,rfl,HR.out,H1.out.trans (H2.out.mono H1.out.size)⟩
theorem QF(t:ByteArray)(ht:t.size<=140737488355000)(w:Ab)(hL:Bk w)(hE:Cc w):Ag Aa 214 #[.string t] w fun e w'=>∃x y,e=.returned (.tuple #[.int .u16 x,.int .i64 y])/\Hid (Res (Fo CO Cm.data.toList 65536 (up t).data.toList) x y)/\Hid (Blw w w'):=by
 have HL:Hid (Bk w/\Cc w):=⟨hL,hE⟩;clear hL hE;go_enter Tryz.func214,Tryz.ntmps214;go_wp2_with fail;refine(PJ w).mono ?_;rintro e W1 ⟨rfl,H1⟩;go_wp2_with fail;refine(RU Ki Cm 65535 (by decide) CO t ht W1 Ts (HL.out.1.below H1.out) (HL.out.2.below H1.out)).mono ?_;rintro e W2 ⟨x,y,rfl,HR,H2⟩;have hw:IntKind.u16.wrap x=x:=by
  have hb:=kD _ x y (fun n hn=>Vd CO _ 65536 _ n hn) HR.out;rw[IntKind.wrap_u16];omega
 go_wp2_with fail;go_ret2;exact⟨_,_,rfl,HR.out,H1.out.trans (H2.out.mono H1.out.size)⟩
def DP(t:Int):Bool:=decide (t≠0) && decide (t≠41) && (decide (t<128) || decide (255<t))
theorem RD(t:Int)(w:Ab):Ag Aa 62 #[.int .u16 t] w fun e w'=>e=.returned (.bool (DP t))/\w'=w:=by
 go_enter Tryz.func62,Tryz.ntmps62;by_cases h0:t=0
 ·subst h0;go_wp2_with fail;go_ret;exact⟨Cl (by decide),rfl⟩
 ·by_cases h1:t=41
  ·subst h1;go_wp2_with fail;go_ret;exact⟨Cl (by decide),rfl⟩
  ·have q0:(t == 0)=false:=by simp[h0]
   have q1:(t == 41)=false:=by simp[h1]
   go_wp2_with fail;refine(Pc t w).mono ?_;rintro e W ⟨rfl,rfl⟩;go_wp2_with fail;go_ret;refine⟨Cl ?_,rfl⟩;simp[DP,h0,h1];by_cases h2:t<128
   ·simp[h2];omega
   ·by_cases h3:255<t
    ·simp[h3];omega
    ·simp[h2,h3];omega
theorem SL(ps:GE)(pre:List UInt8)(n:Nat)(p:List UInt8 × Nat)(h:ps.find? (fun p=>p.2 == n)=some p):Fc ps pre n=p.1:=by
 unfold Fc;rw[h]
theorem Tb(ps:GE)(pre:List UInt8)(n:Nat)(h:ps.find? (fun p=>p.2 == n)=none):Fc ps pre n=pre++Bv n:=by
 unfold Fc;rw[h]
theorem Xm(g j:Nat):(⟨g,0,none⟩:Addr).add j=⟨g,j,none⟩:=by unfold Kk;split <;> simp_all
theorem Zq(g j:Nat):(⟨g,0,none⟩:Addr).add j=⟨g,0+j,none⟩:=by rw[Xm];simp
theorem JY{B e k n:Nat}{v:Ao}{xs:List Ao}{w w':Ab}(h:w.ownsRow B e k v n xs)(hb:∀g,v.ownBlock=some g->w'.heap[g]?=w.heap[g]?):w'.ownsRow B e k v n xs:=by
 refine⟨h.1,?_⟩;obtain hn|⟨g,cap,cur,rfl,h1,h2,rest⟩:=h.2
 ·exact .inl hn
 ·exact .inr ⟨g,cap,cur,rfl,h1,by rw[hb g rfl];exact h2,rest⟩
theorem Hv{B e k n:Nat}{v:Ao}{xs:List Ao}{w:Ab}(h:w.ownsRow B e k v n xs)(g:Nat)(hg:v.ownBlock=some g):∃cur,w.heap[g]?=some (.cells cur e (0,0)):=by
 obtain⟨rfl,_⟩|⟨g',cap,cur,rfl,h1,h2,rest⟩:=h.2
 ·simp[Bm]at hg
 ·simp[Bm]at hg;subst hg;exact⟨cur,h2⟩
def Cx(ws:List WdZ):List Ao:=ws.flatMap fun p=>[.string p.1,.bool p.2]
theorem bF(ws:List WdZ)(k:Nat)(h:k<ws.length):(Cx ws)[k*2]?=some (.string ws[k].1)/\(Cx ws)[k*2+1]?=some (.bool ws[k].2):=by
 induction ws generalizing k with
 |nil=>simp at h
 |cons p ws ih=>
  cases k with
  |zero=>simp[Cx,Cn]
  |succ k=>
   have:=ih k (by simpa using h);rw[show(k+1)*2=k*2+1+1 by omega];simpa[Cx,Cn] using this
theorem WN(a b:List WdZ):Cx (a++b)=Cx a++Cx b:=by simp[Cx]
theorem QI(ws:List WdZ):∀u∈Cx ws,u.oneCell'=true:=by
 intro u hu;simp only[Cx,List.mem_flatMap]at hu;obtain⟨p,_,hu⟩:=hu;simp at hu;obtain rfl|rfl:=hu <;> rfl
def gW(w:Ab)(a:Option Addr)(ws:List WdZ):Prop:=
 ws=[]∨∃b o,a=some ⟨b,o,none⟩/\b<w.heap.size/\∀i (h:i<ws.length),w.cell? ⟨b,o+i*2,none⟩=some (.string ws[i].1)/\w.cell? ⟨b,o+i*2+1,none⟩=some (.bool ws[i].2)
theorem gW.below{w w':Ab}{a:Option Addr}{ws:List WdZ}(h:gW w a ws)(hb:Blw w w'):gW w' a ws:=by
 obtain h|⟨b,o,h1,h2,h3⟩:=h
 ·exact .inl h
 ·exact .inr ⟨b,o,h1,Ap h2 hb.size,fun i hi=>⟨(hb.cell (p:=⟨b,o+i*2,none⟩) h2).trans (h3 i hi).1,(hb.cell (p:=⟨b,o+i*2+1,none⟩) h2).trans (h3 i hi).2⟩⟩
def WRd(w:Ab)(x:Sl)(ws:List WdZ):Prop:=x.n=ws.length/\ws.length<=x.c/\x.c<=9223372036854775807/\gW w x.a ws
theorem WRd.below{w w':Ab}{x:Sl}{ws:List WdZ}(h:WRd w x ws)(hb:Blw w w'):WRd w' x ws:=⟨h.1,h.2.1,h.2.2.1,h.2.2.2.below hb⟩
theorem Qs{B:Nat}{w:Ab}{v:Ao}{ws:List WdZ}(h:w.ownsRow B 167 2 v ws.length (Cx ws)):∃x:Sl,v=.slice x.a x.n x.c/\WRd w x ws:=by
 obtain⟨rfl,h0⟩|⟨g,cap,cur,rfl,hb,hg,h1,h2,h3,h4⟩:=h.2
 ·have:ws=[]:=Aq.1 h0;subst this;exact⟨⟨none,0,0⟩,rfl,rfl,by simp,by simp,.inl rfl⟩
 ·refine⟨⟨_,ws.length,cap⟩,rfl,rfl,h1,by simpa only[Gi] using h2,.inr ⟨g,0,rfl,(As.1 hg).1,fun i hi=>?_⟩⟩;obtain⟨c1,c2⟩:=bF ws i hi;have k1:=h.cells (g:=g) rfl _ _ c1;have k2:=h.cells (g:=g) rfl _ _ c2;rw[Zq]at k1 k2;exact⟨k1,k2⟩
theorem wJ:∃i,Aa.info? 167=some i/\i.zero=some (.agg #[.string ⟨#[]⟩,.bool false])/\i.size=2/\i.bytes=24:=by
 have h:(Aa.info? 167).map (fun i=>(i.zero,i.size,i.bytes))=some (some (.agg #[.string ⟨#[]⟩,.bool false]),2,24):=by kernel_rfl
 obtain⟨i,h1,h2⟩:=Ju.1 h;simp only[Prod.mk.injEq]at h2;exact⟨i,h1,h2.1,h2.2.1,h2.2.2⟩
theorem wI:∃i,Aa.info? 120=some i/\i.zero=some (.agg #[.int .i64 0,.bool false,.slice none 0 0])/\i.size=3/\i.bytes=40:=by
 have h:(Aa.info? 120).map (fun i=>(i.zero,i.size,i.bytes))=some (some (.agg #[.int .i64 0,.bool false,.slice none 0 0]),3,40):=by kernel_rfl
 obtain⟨i,h1,h2⟩:=Ju.1 h;simp only[Prod.mk.injEq]at h2;exact⟨i,h1,h2.1,h2.2.1,h2.2.2⟩
theorem Tn(w:Ab)(s:ByteArray)(q:Bool):∀j u,(Cx [(s,q)])[j]?=some u->(w.alloc (.cells #[.string s,.bool q] 167)).cell? ((⟨w.heap.size,0,none⟩:Addr).add j)=some u:=by
 intro j u hu;rw[Xm];unfold Az;rw[Au];match j,hu with
 |0,hu=>simpa[Cx] using hu
 |1,hu=>simpa[Cx] using hu
 |j+2,hu=>simp[Cx]at hu
def JL(x:Sl)(e:En):List Ao:=[.int .i64 e.line,.bool e.blank,.slice x.a x.n x.c]
def DN(ps:List (Sl × En)):List Ao:=ps.flatMap fun p=>JL p.1 p.2
theorem cZ(ps:List (Sl × En))(k:Nat)(h:k<ps.length)(j:Nat)(hj:j<3):(DN ps)[k*3+j]?=(JL ps[k].1 ps[k].2)[j]?:=by
 induction ps generalizing k with
 |nil=>simp at h
 |cons p ws ih=>
  have hc:DN (p::ws)=JL p.1 p.2++DN ws:=by simp[DN]
  have h8:(JL p.1 p.2).length=3:=rfl;rw[hc];cases k with
  |zero=>rw[List.getElem?_append_left (by rw[h8];omega)];simp
  |succ k=>
   have:=ih k (by simpa using h);rw[List.getElem?_append_right (by rw[h8];omega),h8,show(k+1)*3+j - 3=k*3+j by omega,this];simp
theorem Xb(a b:List (Sl × En)):DN (a++b)=DN a++DN b:=by simp[DN]
theorem Ya(xs:List (Sl × En)):∀u∈DN xs,u.oneCell'=true:=by
 intro u hu;simp only[DN,List.mem_flatMap]at hu;obtain⟨p,_,hu⟩:=hu;simp[JL]at hu;obtain rfl|rfl|rfl:=hu <;> rfl
def RdE(w:Ab)(a:Option Addr)(es:List En):Prop:=
 es=[]∨∃b o,a=some ⟨b,o,none⟩/\b<w.heap.size/\∀i (h:i<es.length),∃x:Sl,w.cell? ⟨b,o+i*3,none⟩=some (.int .i64 es[i].line)/\w.cell? ⟨b,o+i*3+1,none⟩=some (.bool es[i].blank)/\w.cell? ⟨b,o+i*3+2,none⟩=some (.slice x.a x.n x.c)/\WRd w x es[i].ws
theorem RdE.below{w w':Ab}{a:Option Addr}{es:List En}(h:RdE w a es)(hb:Blw w w'):RdE w' a es:=by
 obtain h|⟨b,o,h1,h2,h3⟩:=h
 ·exact .inl h
 ·refine .inr ⟨b,o,h1,Ap h2 hb.size,fun i hi=>?_⟩;obtain⟨x,e1,e2,e3,e4⟩:=h3 i hi;exact⟨x,(hb.cell (p:=⟨b,o+i*3,none⟩) h2).trans e1,(hb.cell (p:=⟨b,o+i*3+1,none⟩) h2).trans e2,(hb.cell (p:=⟨b,o+i*3+2,none⟩) h2).trans e3,e4.below hb⟩
def lst(w:Ab)(j:Nat):Prop:=∃cur t,w.heap[j]?=some (.cells cur t (0,0))/\(t=120∨t=167)
theorem lst.lt{w:Ab}{j:Nat}(h:lst w j):j<w.heap.size:=by obtain⟨_,_,h,_⟩:=h;exact(As.1 h).1
def RfE(B:Nat)(w:Ab)(x:Sl)(ws:List WdZ):Prop:=
 ∀w':Ab,w.heap.size<=w'.heap.size->(∀j,B<=j->(∃cur,w.heap[j]?=some (.cells cur 167 (0,0)))->w'.heap[j]?=w.heap[j]?)->WRd w' x ws
theorem RfE.of{B:Nat}{w:Ab}{v:Ao}{ws:List WdZ}(h:w.ownsRow B 167 2 v ws.length (Cx ws)):∃x:Sl,v=.slice x.a x.n x.c/\RfE B w x ws:=by
 obtain⟨x,hx,_⟩:=Qs h;refine⟨x,hx,fun w' hs hb=>?_⟩;have h':=JY h (fun g hg=>hb g (h.lt g hg).1 (Hv h g hg));obtain⟨y,hy,h2⟩:=Qs h';rw[hx]at hy;cases x;cases y;simp only[Value.slice.injEq]at hy;obtain⟨rfl,rfl,rfl⟩:=hy;exact h2
theorem RfE.go{B:Nat}{w w':Ab}{x:Sl}{ws:List WdZ}(h:RfE B w x ws)(hs:w.heap.size<=w'.heap.size)(hb:∀j,B<=j->(∃cur,w.heap[j]?=some (.cells cur 167 (0,0)))->w'.heap[j]?=w.heap[j]?):RfE B w' x ws:=by
 intro w2 hs2 hb2;refine h w2 (Aj hs hs2) (fun j h1 h2=>?_);have e:=hb j h1 h2;obtain⟨cur,hc⟩:=h2;exact(hb2 j h1 ⟨cur,e.trans hc⟩).trans e
def OwE(B:Nat)(w:Ab)(v:Ao)(es:List En):Prop:=
 ∃ps:List (Sl × En),ps.map (·.2)=es/\w.ownsRow B 120 3 v ps.length (DN ps)/\∀p∈ps,RfE B w p.1 p.2.ws
theorem OwE.nil(B:Nat)(w:Ab):OwE B w (.slice none 0 0) []:=⟨[],rfl,⟨rfl,.inl ⟨rfl,rfl⟩⟩,by simp⟩
theorem OwE.go{B:Nat}{w w':Ab}{v:Ao}{es:List En}(h:OwE B w v es)(hs:w.heap.size<=w'.heap.size)(hb:∀j,B<=j->lst w j->w'.heap[j]?=w.heap[j]?):OwE B w' v es:=by
 obtain⟨ps,h1,h2,h3⟩:=h;refine⟨ps,h1,JY h2 (fun g hg=>?_),fun p hp=>(h3 p hp).go hs (fun j hj ⟨cur,hc⟩=>hb j hj ⟨cur,167,hc,.inr rfl⟩)⟩;obtain⟨cur,hc⟩:=Hv h2 g hg;exact hb g (h2.lt g hg).1 ⟨cur,120,hc,.inl rfl⟩
theorem OwE.stays{B:Nat}{w w':Ab}{v:Ao}{es:List En}(h:OwE B w v es)(hb:Blw w w'):OwE B w' v es:=
 h.go hb.size (fun j _ hj=>hb.block j hj.lt)
theorem OwE.rd{B:Nat}{w:Ab}{v:Ao}{es:List En}(h:OwE B w v es):∃a c,v=.slice a es.length c/\RdE w a es/\es.length<=c/\c<=9223372036854775807:=by
 obtain⟨ps,rfl,h2,h3⟩:=h;have hpl:(ps.map (·.2)).length=ps.length:=by simp
 rw[hpl];obtain⟨rfl,h0⟩|⟨g,cap,cur,rfl,hb,hg,k1,k2,k3,k4⟩:=h2.2
 ·have:ps=[]:=Aq.1 h0;subst this;exact⟨none,0,rfl,.inl rfl,by simp,by omega⟩
 ·refine⟨_,cap,rfl,.inr ⟨g,0,rfl,(As.1 hg).1,fun i hi=>?_⟩,k1,by simpa only[Gi] using k2⟩;have hi':i<ps.length:=by simpa using hi
  have hgi:(ps.map (·.2))[i]=ps[i].2:=by simp
  have cc:∀j (hj:j<3),w.cell? ⟨g,0+(i*3+j),none⟩=(JL ps[i].1 ps[i].2)[j]?:=fun j hj=>by
   have e1:=cZ ps i hi' j hj;have hlt:j<(JL ps[i].1 ps[i].2).length:=hj;rw[AF hlt]at e1 ⊢;have:=h2.cells (g:=g) rfl _ _ e1;rw[Zq]at this;exact this
  rw[hgi];exact⟨ps[i].1,cc 0 (by omega),by simpa[Nat.add_assoc,JL] using cc 1 (by omega),by simpa[Nat.add_assoc,JL] using cc 2 (by omega),h3 ps[i] (AU _) w (Ad _) (fun _ _ _=>rfl)⟩
theorem tP(w:Ab)(x:Sl)(e:En):∀j u,(DN [(x,e)])[j]?=some u->(w.alloc (.cells #[.int .i64 e.line,.bool e.blank,.slice x.a x.n x.c] 120)).cell? ((⟨w.heap.size,0,none⟩:Addr).add j)=some u:=by
 intro j u hu;rw[Xm];unfold Az;rw[Au];have:DN [(x,e)]=[.int .i64 e.line,.bool e.blank,.slice x.a x.n x.c]:=by simp[DN,JL]
 rw[this]at hu;simpa using hu
theorem OwE.push{B:Nat}{w w3 w4:Ab}{v v':Ao}{ps:List (Sl × En)}{x:Sl}{e:En}(h3:∀p∈ps,RfE B w p.1 p.2.ws)(hx:RfE B w x e.ws)(hl:w.ownsRow B 120 3 v ps.length (DN ps))(hb3:Blw w w3)(h5:w4.ownsRow B 120 3 v' (ps.length+1) (DN ps++DN [(x,e)]))(h6:w3.grownBy w4 v.ownBlock):OwE B w4 v' (ps.map (·.2)++[e]):=by
 have hk:∀j,B<=j->(∃cur,w.heap[j]?=some (.cells cur 167 (0,0)))->w4.heap[j]?=w.heap[j]?:=by
  intro j hj ⟨cur,hc⟩;have hlt:=(As.1 hc).1;rw[h6.block j (Ap hlt hb3.size) (fun e=>?_),hb3.block j hlt];obtain⟨c2,hc2⟩:=Hv hl j e.symm;rw[hc]at hc2;cases hc2
 have hs:=Aj hb3.size h6.size;refine⟨ps++[(x,e)],by simp,?_,fun p hp=>?_⟩
 ·rw[Xb,Af];exact h5
 ·obtain hp|hp:=AG.1 hp
  ·exact(h3 p hp).go hs hk
  ·rw[Bc]at hp;subst hp;exact hx.go hs hk
def bI(c:UInt8):Int:=(c.toNat:Int)
theorem PQ(c k:UInt8):(bI c == bI k)=(c == k):=by
 unfold bI;rw[Bool.eq_iff_iff];simp;rw[<- UInt8.toNat_inj];omega
def Wg(z:Int):Bool:=z == 32 || z == 9 || z == 13
def Jc(z:Int):Bool:=Wg z || z == 10 || z == 59 || z == 40 || z == 41
theorem ZR(c:UInt8):Wg (bI c)=isB c:=by
 unfold Wg isB;rw[<- PQ c 32,<- PQ c 9,<- PQ c 13];rfl
theorem FM(c:UInt8):Jc (bI c)=DJ c:=by
 unfold Jc DJ;rw[ZR,<- PQ c 10,<- PQ c 59,<- PQ c 40,<- PQ c 41];rfl
theorem rQ(z:Int)(w:Ab):Ag Aa 116 #[.int .u8 z] w fun e w'=>e=.returned (.bool (Wg z))/\w'=w:=by
 go_enter Tryz.func116,Tryz.ntmps116;go_wp2
 all_goals
  go_ret;exact⟨Cl (by simp_all [Wg]),rfl⟩
theorem JH(z:Int)(w:Ab):Ag Aa 121 #[.int .u8 z] w fun e w'=>e=.returned (.bool (Jc z))/\w'=w:=by
 have K:=Ac (fun w=>rQ z w);go_enter Tryz.func121,Tryz.ntmps121;go_wp2_with fail;refine(K.out _).mono ?_;rintro e w1 ⟨rfl,rfl⟩;cases hb:Wg z with
 |true=>
  go_wp2
  all_goals
   go_ret;exact⟨Cl (by simp_all [Jc]),rfl⟩
 |false=>
  go_wp2
  all_goals
   go_ret;exact⟨Cl (by simp_all [Jc]),rfl⟩
theorem Zf(k:Nat)(w:Ab):Ag Aa 117 #[.int .u8 k] w fun e w'=>e=.returned (.bool (decide (k=2∨k=4)))/\w'=w:=by
 go_enter Tryz.func117,Tryz.ntmps117;go_wp2
 all_goals
  go_ret;exact⟨Cl (by rw[Bool.eq_iff_iff];simp;try omega),rfl⟩
theorem pJ(s:ByteArray)(w:Ab)(h:s.size<=281474976710656):Ag Aa 192 #[.string s] w fun e w'=>e=.returned (.string s)/\Hid (Blw w w'):=by
 have K:=Ac (fun w=>Tryz.stringslite_Clone s w h);go_enter Tryz.func192,Tryz.ntmps192;go_wp2_with fail;refine(K.out _).mono ?_;rintro e w1 ⟨rfl,HB⟩;have HB1:=Ac HB;clear HB;go_wp2_with fail;go_ret;exact⟨rfl,HB1⟩
theorem dK(l:List UInt8):Lib.countByte l 10=EU l:=by
 unfold Lib.countByte;induction l with
 |nil=>rfl
 |cons c l ih=>
  rw[List.count_cons,ih,EU];by_cases h:c=10
  ·simp[h];omega
  ·simp[h]
theorem jT(l:List UInt8):Lib.hasSuffix l [10]=decide (l.getLast?=some 10):=by
 unfold Lib.hasSuffix;rw[Bool.eq_iff_iff];simp only[List.isSuffixOf_iff_suffix,decide_eq_true_eq];constructor
 ·rintro⟨t,rfl⟩;simp
 ·intro h;obtain⟨t,ht⟩:=List.getLast?_eq_some_iff.1 h;exact⟨t,ht.symm⟩
theorem jA(l:List UInt8):EU l<=l.length:=by
 induction l with
 |nil=>simp[EU]
 |cons c l ih=>simp[EU];split <;> omega
theorem UL(s:ByteArray)(w:Ab)(h:s.size<=4611686018427387904):Ag Aa 158 #[.string s] w fun e w'=>e=.returned (.int .i64 (Ca s.data.toList))/\w'=w:=by
 have K30:Hid (∀w,Ag Aa 22 #[.string s,.string ⟨#[10]⟩] w fun e w'=>e=.returned (.int .i64 (EU s.data.toList))/\w'=w):=fun w=>by
  have:=Tryz.strings_Count_one s 10 w;rw[dK]at this;exact this
 have K31:Hid (∀w,Ag Aa 193 #[.string s,.string ⟨#[10]⟩] w fun e w'=>e=.returned (.bool (decide (s.data.toList.getLast?=some 10)))/\w'=w):=fun w=>by
  have:=Tryz.strings_HasSuffix s ⟨#[10]⟩ w (by omega);rw[show(⟨#[10]⟩:ByteArray).data.toList=[10] from rfl,jT]at this;exact this
 have hc:=jA s.data.toList;have hl:s.data.toList.length=s.size:=by simp
 rw[hl]at hc;have HL:Hid (Ca s.data.toList=EU s.data.toList+(if s.data.toList.getLast?=none∨s.data.toList.getLast?=some 10 then 0 else 1)):=rfl;generalize EU s.data.toList=C at*;generalize Ca s.data.toList=N at*;have HN:Hid (s.data.toList.getLast?=none↔s.size=0):=(show _↔_ from List.getLast?_eq_none_iff.trans ⟨fun e=>by rw[<- hl,e];rfl,fun e=>Aq.1 (by rw[hl];exact e)⟩);by_cases h0:s.size=0
 ·have hs:s=⟨#[]⟩:=by apply ByteArray.ext;exact Array.eq_empty_of_size_eq_zero h0
  have e:=HL.out;rw[if_pos (.inl (HN.out.2 h0))]at e;have HE:Hid (N=C):=(by show N=C;omega);subst hs;clear HL HN e;go_enter Tryz.func158,Tryz.ntmps158;go_wp2_with fail;refine(K30.out _).mono ?_;rintro e w1 ⟨rfl,rfl⟩;go_wp2_with fail;go_ret;exact⟨by rw[HE.out];rfl,rfl⟩
 ·have hne:(s.data.toList == ([]:List UInt8))=false:=by simp;intro e;apply h0;rw[<- hl,e];rfl
  have hne2:(s.toList == ([]:List UInt8))=false:=by rw[Da];exact hne
  have hne3:¬ s=⟨#[]⟩:=by intro e;apply h0;rw[e];rfl
  by_cases hk:s.data.toList.getLast?=some 10
  ·have e:=HL.out;rw[if_pos (.inr hk)]at e;have HE:Hid (N=C):=(by show N=C;omega);simp only[hk,decide_true]at K31;clear HL HN e hk;go_enter Tryz.func158,Tryz.ntmps158;go_wp2_with fail;refine(K30.out _).mono ?_;rintro e w1 ⟨rfl,rfl⟩;go_wp2_with fail;refine(K31.out _).mono ?_;rintro e w1 ⟨rfl,rfl⟩;go_wp2_with fail;go_ret;exact⟨by rw[HE.out];rfl,rfl⟩
  ·have e:=HL.out;rw[if_neg (by simp only[not_or];exact⟨fun x=>h0 (HN.out.1 x),hk⟩)]at e;have HE:Hid (N=C+1):=e;simp only[hk,decide_false]at K31;clear HL HN e hk;go_enter Tryz.func158,Tryz.ntmps158;go_wp2_with fail;refine(K30.out _).mono ?_;rintro e w1 ⟨rfl,rfl⟩;go_wp2_with fail;refine(K31.out _).mono ?_;rintro e w1 ⟨rfl,rfl⟩;go_wp2_with fail;go_ret;exact⟨by rw[HE.out];go_num,rfl⟩
def Bx(w:Ab)(R:Nat)(s:ByteArray)(ln op st:Nat)(el:Int)(bl:Bool)(wv ev:Ao):Prop:=
 w.heap[R]?=some (.cells #[.string s,.int .i64 ln,.int .i64 op,.int .i64 st,.int .i64 el,.bool bl,wv,ev] 122 (0,0))
variable {w:Ab} {R:Nat} {s:ByteArray} {ln op st:Nat} {el:Int} {bl:Bool} {wv ev:Ao}
theorem Bx.lt(h:Bx w R s ln op st el bl wv ev):R<w.heap.size:=(As.1 h).1
theorem Bx.c0(h:Bx w R s ln op st el bl wv ev):w.cell? ⟨R,0,none⟩=some (.string s):=by unfold Bx at h;simp[Az,h]
theorem Bx.c1(h:Bx w R s ln op st el bl wv ev):w.cell? ⟨R,1,none⟩=some (.int .i64 ln):=by unfold Bx at h;simp[Az,h]
theorem Bx.c2(h:Bx w R s ln op st el bl wv ev):w.cell? ⟨R,2,none⟩=some (.int .i64 op):=by unfold Bx at h;simp[Az,h]
theorem Bx.c3(h:Bx w R s ln op st el bl wv ev):w.cell? ⟨R,3,none⟩=some (.int .i64 st):=by unfold Bx at h;simp[Az,h]
theorem Bx.c4(h:Bx w R s ln op st el bl wv ev):w.cell? ⟨R,4,none⟩=some (.int .i64 el):=by unfold Bx at h;simp[Az,h]
theorem Bx.c5(h:Bx w R s ln op st el bl wv ev):w.cell? ⟨R,5,none⟩=some (.bool bl):=by unfold Bx at h;simp[Az,h]
theorem Bx.c6(h:Bx w R s ln op st el bl wv ev):w.cell? ⟨R,6,none⟩=some wv:=by unfold Bx at h;simp[Az,h]
theorem Bx.c7(h:Bx w R s ln op st el bl wv ev):w.cell? ⟨R,7,none⟩=some ev:=by unfold Bx at h;simp[Az,h]
theorem Bx.fz(h:Bx w R s ln op st el bl wv ev)(i:Nat):w.frozen? ⟨R,i,none⟩=false:=by unfold Bx at h;simp[Dv,h]
theorem Bx.same{w':Ab}(h:Bx w R s ln op st el bl wv ev)(hb:w'.heap[R]?=w.heap[R]?):Bx w' R s ln op st el bl wv ev:=hb.trans h
theorem Bx.not_lst(h:Bx w R s ln op st el bl wv ev):¬ lst w R:=by
 rintro⟨cur,t,h1,h2⟩;unfold Bx at h;rw[h]at h1;cases h1;simp at h2
theorem Bx.p1(h:Bx w R s ln op st el bl wv ev)(n:Nat):Bx (w.setCell ⟨R,1,none⟩ (.int .i64 n)) R s n op st el bl wv ev:=by
 have:=AD h 1 (.int .i64 n);simpa[Bx] using this
theorem Bx.p2(h:Bx w R s ln op st el bl wv ev)(n:Nat):Bx (w.setCell ⟨R,2,none⟩ (.int .i64 n)) R s ln n st el bl wv ev:=by
 have:=AD h 2 (.int .i64 n);simpa[Bx] using this
theorem Bx.p3(h:Bx w R s ln op st el bl wv ev)(n:Nat):Bx (w.setCell ⟨R,3,none⟩ (.int .i64 n)) R s ln op n el bl wv ev:=by
 have:=AD h 3 (.int .i64 n);simpa[Bx] using this
theorem Bx.p4(h:Bx w R s ln op st el bl wv ev)(n:Int):Bx (w.setCell ⟨R,4,none⟩ (.int .i64 n)) R s ln op st n bl wv ev:=by
 have:=AD h 4 (.int .i64 n);simpa[Bx] using this
theorem Bx.p5(h:Bx w R s ln op st el bl wv ev)(b:Bool):Bx (w.setCell ⟨R,5,none⟩ (.bool b)) R s ln op st el b wv ev:=by
 have:=AD h 5 (.bool b);simpa[Bx] using this
theorem Bx.p6(h:Bx w R s ln op st el bl wv ev)(v:Ao):Bx (w.setCell ⟨R,6,none⟩ v) R s ln op st el bl v ev:=by
 have:=AD h 6 v;simpa[Bx] using this
theorem Bx.p7(h:Bx w R s ln op st el bl wv ev)(v:Ao):Bx (w.setCell ⟨R,7,none⟩ v) R s ln op st el bl wv v:=by
 have:=AD h 7 v;simpa[Bx] using this
theorem QN(w:Ab)(a:Addr)(v:Ao):(w.setCell a v).heap.size=w.heap.size:=by simp
def Hx(B:Nat)(wS w:Ab):Prop:=B<=wS.heap.size/\wS.heap.size<=w.heap.size/\∀j,B<=j->lst wS j->w.heap[j]?=wS.heap[j]?
theorem Hx.refl{B:Nat}{w:Ab}(h:B<=w.heap.size):Hx B w w:=⟨h,Ad _,fun _ _ _=>rfl⟩
theorem Hx.set{B:Nat}{wS w:Ab}(h:Hx B wS w){R:Nat}(hR:¬ lst w R)(i:Nat)(u:Ao):Hx B wS (w.setCell ⟨R,i,none⟩ u):=by
 refine⟨h.1,by rw[QN];exact h.2.1,fun j h1 h2=>?_⟩;have e:=h.2.2 j h1 h2;rw[Ar _ _ _ _ (fun x=>?_),e];simp only at x;subst x;obtain⟨cur,t,a,b⟩:=h2;exact hR ⟨cur,t,e.trans a,b⟩
theorem Hx.below{B:Nat}{wS w w':Ab}(h:Hx B wS w)(hb:Blw w w'):Hx B wS w':=
 ⟨h.1,Aj h.2.1 hb.size,fun j h1 h2=>by
  rw[hb.block j (Ap h2.lt h.2.1)];exact h.2.2 j h1 h2⟩
theorem Hx.grown{B:Nat}{wS w w':Ab}{g:Option Nat}(h:Hx B wS w)(hb:w.grownBy w' g)(hg:∀k,g=some k->wS.heap.size<=k):Hx B wS w':=
 ⟨h.1,Aj h.2.1 hb.size,fun j h1 h2=>by
  rw[hb.block j (Ap h2.lt h.2.1) (fun e=>by have:=hg j e.symm;have:=h2.lt;omega)];exact h.2.2 j h1 h2⟩
theorem Hx.own{B:Nat}{wS w:Ab}(h:Hx B wS w){v:Ao}{es:List En}(ho:OwE B wS v es):OwE B w v es:=ho.go h.2.1 h.2.2
theorem Kg{B e k n R:Nat}{v:Ao}{xs:List Ao}{w:Ab}(h:w.ownsRow B e k v n xs)(he:e=120∨e=167)(hR:¬ lst w R)(i:Nat)(u:Ao):(w.setCell ⟨R,i,none⟩ u).ownsRow B e k v n xs:=
 JY h (fun g hg=>Ar _ _ _ _ (fun x=>by
  simp only at x;subst x;obtain⟨cur,hc⟩:=Hv h g hg;exact hR ⟨cur,e,hc,he⟩))
structure Fx where
 w:Ab
 P:List (Nat × Int × Int)
def Fr(B:Nat)(x:Fx)(w:Ab):Prop:=Below B x.w w/\∀j∈x.P,w.heap[j.1]?=some (.cells #[.int .i64 j.2.1,.int .i64 j.2.2] 50 (0,0))
theorem Fr.set{B R:Nat}{x:Fx}{w:Ab}(h:Fr B x w)(hR:B<=R){cs:Array Ao}(hb:w.heap[R]?=some (.cells cs 122 (0,0)))(i:Nat)(u:Ao):Fr B x (w.setCell ⟨R,i,none⟩ u):=by
 refine⟨h.1.setCell (p:=⟨R,i,none⟩) hR _,fun j hj=>?_⟩;have e:=h.2 j hj;rw[Ar _ _ _ _ (fun y=>?_),e];simp only at y;rw[y,hb]at e;cases e
theorem Fr.go{B:Nat}{x:Fx}{w w':Ab}(h:Fr B x w)(hb:Blw w w')(hB:B<=w.heap.size):Fr B x w':=
 ⟨h.1.trans (hb.mono hB),fun j hj=>by
  have e:=h.2 j hj;rw[hb.block j.1 (As.1 e).1];exact e⟩
theorem Fr.grown{B:Nat}{x:Fx}{w w':Ab}{g:Option Nat}(h:Fr B x w)(hg:w.grownBy w' g)(hB:B<=w.heap.size)(hk:∀k,g=some k->B<=k/\lst w k):Fr B x w':=
 ⟨h.1.grown hg hB (fun k e=>(hk k e).1),fun j hj=>by
  have e:=h.2 j hj;rw[hg.block j.1 (As.1 e).1 (fun y=>?_)]
  ·exact e
  ·obtain⟨cur,t,h1,h2⟩:=(hk j.1 y.symm).2;rw[e]at h1;cases h1;simp at h2⟩
structure RSZ(B R:Nat)(w0:Fx)(w:Ab)(s:ByteArray)(q:Cf)(AB:Nat)(wv ev:Ao)(wS:Ab):Prop where
 bx:Bx w R s q.line q.op AB q.el q.bl wv ev
 ow:OwE B wS ev q.es
 si:Hx B wS w
 wo:w.ownsRow wS.heap.size 167 2 wv q.ws.length (Cx q.ws)
 br:B<=R
 bl:Fr B w0 w
structure RC(B R:Nat)(w0:Fx)(w:Ab)(s:ByteArray)(q:Cf)(AB:Nat)(wv ev:Ao):Prop where
 bx:Bx w R s q.line q.op AB q.el q.bl wv ev
 ow:OwE B w ev q.es
 br:B<=R
 bl:Fr B w0 w
theorem RSZ.rc{B R:Nat}{w0:Fx}{w:Ab}{s:ByteArray}{q:Cf}{AB:Nat}{wv ev:Ao}{wS:Ab}(h:RSZ B R w0 w s q AB wv ev wS):RC B R w0 w s q AB wv ev:=⟨h.bx,h.si.own h.ow,h.br,h.bl⟩
theorem XL(s:ByteArray)(p:Nat)(h:p<s.size):LY (s.data.toList.drop p)=isB s[p]:=by
 rw[El (by simpa using h)]
 rfl
theorem WH(s:ByteArray)(p:Nat)(h:¬ p<s.size):LY (s.data.toList.drop p)=false:=by
 rw[NU (by simp;omega)];rfl
theorem RC.begun{B R:Nat}{w0:Fx}{w:Ab}{s:ByteArray}{q:Cf}{AB:Nat}{wv ev:Ao}(h:RC B R w0 w s q AB wv ev)(r:List UInt8)(b:Bool)(hb:LY r=b) :
  RSZ B R w0 (((w.setCell ⟨R,4,none⟩ (.int .i64 0)).setCell ⟨R,5,none⟩ (.bool b)).setCell ⟨R,6,none⟩ (.slice none 0 0)) s (DV q r) AB (.slice none 0 0) ev (((w.setCell ⟨R,4,none⟩ (.int .i64 0)).setCell ⟨R,5,none⟩ (.bool b)).setCell ⟨R,6,none⟩ (.slice none 0 0)):=by
 have b1:=h.bx.p4 0;have b2:=b1.p5 b;have b3:=b2.p6 (.slice none 0 0);have hB:B<=w.heap.size:=Nat.le_of_lt (Nat.lt_of_le_of_lt h.br h.bx.lt);have s0:Hx B w w:=Hx.refl hB;have s3:=((s0.set h.bx.not_lst 4 (.int .i64 0)).set b1.not_lst 5 (.bool b)).set b2.not_lst 6 (.slice none 0 0);refine⟨?_,s3.own h.ow,Hx.refl (by simp only[QN];exact hB),World.ownsRow_nil _ _ _ _,h.br,?_⟩
 ·simp only[DV,hb];exact b3
 ·exact((h.bl.set h.br h.bx 4 _).set h.br b1 5 _).set h.br b2 6 _
theorem Zx(B R:Nat)(w0:Fx)(w:Ab)(s:ByteArray)(q:Cf)(AB:Nat)(wv ev:Ao)(p:Nat)(h:RC B R w0 w s q AB wv ev)(hs:s.size<=9223372036854775807) :
  Ag Aa 82 #[.pointer (some ⟨R,0,none⟩),.int .i64 p] w fun e w'=>e=.returned (.tuple #[])/\Hid (∃wS,RSZ B R w0 w' s (DV q (s.data.toList.drop p)) AB (.slice none 0 0) ev wS):=by
 have c0:=h.bx.c0;have f4:=h.bx.fz 4;have f5:=h.bx.fz 5;have f6:=h.bx.fz 6;have c4:=h.bx.c4;have c5:=h.bx.c5;have c6:=h.bx.c6;have hlt:=h.bx.lt;by_cases hp:p<s.size
 ·have hp':(p:Int)<(s.size:Int):=by omega
  have K:=Ac (fun w=>rQ ((s[p].toNat:Nat):Int) w);have HF:=Ac (h.begun (s.data.toList.drop p) (Wg ((s[p].toNat:Nat):Int)) (by rw[XL s p hp];exact(ZR _).symm));clear h;go_enter Tryz.func82,Tryz.ntmps82;go_wp2_with fail;refine(K.out _).mono ?_;rintro e w1 ⟨rfl,rfl⟩;generalize Wg ((s[p].toNat:Nat):Int)=b at*;go_wp2_with fail
  go_end0
  exact⟨rfl,_,HF.out⟩
 ·have hp':¬ (p:Int)<(s.size:Int):=by omega
  have HF:=Ac (h.begun (s.data.toList.drop p) false (WH s p hp));clear h;go_enter Tryz.func82,Tryz.ntmps82;go_wp2_with fail
  go_end0
  exact⟨rfl,_,HF.out⟩
theorem BS(w:Ab)(o:Obj):Blw w (w.alloc o):=(Ae _ _).alloc (Ad _) _
theorem Uv(B R:Nat)(w0:Fx)(w:Ab)(s:ByteArray)(q:Cf)(AB:Nat)(wv ev:Ao)(wS:Ab)(h:RSZ B R w0 w s q AB wv ev wS)(he:q.es.length<=1000000) :
  Ag Aa 157 #[.pointer (some ⟨R,0,none⟩)] w fun e w'=>e=.returned (.tuple #[])/\Hid (∃wv' ev',RC B R w0 w' s (BP q) AB wv' ev'):=by
 obtain⟨x,rfl,hx⟩:=RfE.of h.wo;obtain⟨y,hy,hW⟩:=Qs h.wo;have hxy:x=y:=by cases x;cases y;simp only[Value.slice.injEq]at hy;obtain⟨rfl,rfl,rfl⟩:=hy;rfl
 subst hxy;have hn:=hW.1;have c6:=h.bx.c6;by_cases h0:q.ws.length=0
 ·have HR:Hid (∃wv' ev',RC B R w0 w s (BP q) AB wv' ev'):=by
   have hr:=h.rc;have e:BP q=q:=by
    have:q.ws=[]:=Aq.1 h0;cases q;simp_all [BP]
   rw[e];exact⟨_,_,hr⟩
  have hn0:x.n=0:=by omega
  rw[hn0]at c6;clear h hx hW hy hn hn0;go_enter Tryz.func157,Tryz.ntmps157;go_wp2_with fail
  go_end0
  exact⟨rfl,HR⟩
 ·have hpos:(0:Int)<(x.n:Int):=by omega
  have hne:q.ws.isEmpty=false:=by cases hq:q.ws with|nil=>simp[hq]at h0|cons=>rfl
  have HO:Hid (OwE B w ev q.es):=h.si.own h.ow;obtain⟨ps,hp1,hp2,hp3⟩:=HO.out;have hpl:ps.length<=1000000:=by have:=congrArg FH hp1;simp at this;omega
  have hX:RfE B w x q.ws:=fun w' hs hb=>hx w' hs (fun j hj=>hb j (by have:=h.si.1;omega))
  obtain⟨i25,hi,hz0,hz1,hz2⟩:=wI;have HI:Hid (Aa.info? 120=some i25/\i25.zero=some (.agg #[.int .i64 0,.bool false,.slice none 0 0])/\i25.size=3/\i25.bytes=40):=⟨hi,hz0,hz1,hz2⟩;have HP:Hid (w.ownsRow B 120 3 ev ps.length (DN ps)/\∀p∈ps,RfE B w p.1 p.2.ws):=⟨hp2,hp3⟩;have HX:=Ac hX;have HE:=Ac hp1;have c4:=h.bx.c4;have c5:=h.bx.c5;have c7:=h.bx.c7;have f7:=h.bx.fz 7;have hlt:=h.bx.lt;have HBX:=Ac h.bx;have hBs:B<=w.heap.size:=by have:=h.br;omega
  have HBR:=Ac h.br;have HBL:=Ac h.bl;have HFIN:Hid (∀(w4:Ab) (g cap:Nat),w4.ownsRow B 120 3 (.slice (some ⟨g,0,none⟩) (ps.length+1) cap) (ps.length+1) (DN ps++DN [(x,⟨q.el,q.bl,q.ws⟩)])->(w.drew.alloc (.cells #[.int .i64 q.el,.bool q.bl,.slice x.a x.n x.c] 120)).grownBy w4 ev.ownBlock->Bx w4 R s q.line q.op AB q.el q.bl (.slice x.a x.n x.c) ev/\RC B R w0 (w4.setCell ⟨R,7,none⟩ (.slice (some ⟨g,0,none⟩) (ps.length+1) cap)) s (BP q) AB (.slice x.a x.n x.c) (.slice (some ⟨g,0,none⟩) (ps.length+1) cap)):=by
   intro w4 g cap h5 h6;have hb0:Blw w (w.drew.alloc (.cells #[.int .i64 q.el,.bool q.bl,.slice x.a x.n x.c] 120)):=((Ae _ _).drew).alloc (Ad _) _;have hpu:=OwE.push (e:=⟨q.el,q.bl,q.ws⟩) HP.out.2 HX.out HP.out.1 hb0 h5 h6;have hne2:some R≠ev.ownBlock:=fun e=>by
    obtain⟨cur,hc⟩:=Hv HP.out.1 R e.symm;exact HBX.out.not_lst ⟨cur,120,hc,.inl rfl⟩
   have hbx4:Bx w4 R s q.line q.op AB q.el q.bl (.slice x.a x.n x.c) ev:=HBX.out.same (by rw[h6.block R (Ap hlt hb0.size) hne2,hb0.block R hlt]);refine⟨hbx4,?_,?_,HBR.out,?_⟩
   ·have:=hbx4.p7 (.slice (some ⟨g,0,none⟩) (ps.length+1) cap);simpa[BP] using this
   ·have e:(BP q).es=ps.map (·.2)++[⟨q.el,q.bl,q.ws⟩]:=by simp[BP,hne,HE.out]
    rw[e];refine hpu.go (by rw[QN];exact Ad _) (fun j hj hl=>Ar _ _ _ _ (fun e=>?_));simp only at e;subst e;exact hbx4.not_lst hl
   ·refine Fr.set ?_ HBR.out hbx4 7 _;exact(HBL.out.go hb0 hBs).grown h6 (Aj hBs hb0.size) (fun k e=>⟨(HP.out.1.lt k e).1,by
     obtain⟨cur,hc⟩:=Hv HP.out.1 k e;exact⟨cur,120,(hb0.block k (HP.out.1.lt k e).2).trans hc,.inl rfl⟩⟩)
  have n4:(w.drew.alloc (.cells #[.int .i64 q.el,.bool q.bl,.slice x.a x.n x.c] 120)).cell? ⟨R,7,none⟩=some ev:=((BS w.drew _).cell (p:=⟨R,7,none⟩) hlt).trans c7;clear h hx hW hp1 hp2 hp3 hX hi hz0 hz1 hz2 hy h0 hn;go_enter Tryz.func157,Tryz.ntmps157;go_wp2_with fail
  go_region_law (first
   |(refine step_append_lies _ (by rfl) _ _ 81 (by rfl) B 120 i25 _ 3 40 Tryz.underlying81 HI.out.1 HI.out.2.1 HI.out.2.2.1 HI.out.2.2.2 rfl (by omega) ev ps.length (DN ps) (by rfl) ((JY HP.out.1 (fun g hg=>rfl):w.drew.ownsRow B 120 3 ev ps.length (DN ps)).alloc _) ⟨w.heap.size,0,none⟩ 1 1 (DN [(x,⟨q.el,q.bl,q.ws⟩)]) (by rfl) (by rfl) (tP w.drew x ⟨q.el,q.bl,q.ws⟩) (Ya _) (by omega) (by simp only[Gi];omega) (by omega) (by simp;omega) (w.heap.size+1) (by simp) ?_;intro g cap w7 h5 h6 hat hlt7;have HF:=Ac (HFIN.out w7 g cap h5 h6);have u7:w7.cell? ⟨R,7,none⟩=some ev:=HF.out.1.c7;have uz:w7.frozen? ⟨R,7,none⟩=false:=HF.out.1.fz 7;have ul:R<w7.heap.size:=HF.out.1.lt;clear h5 h6 hat)
   |fail)
  all_goals
   go_wp2_with fail
   go_end0
   exact⟨rfl,_,_,HF.out.2⟩
def LF(s:ByteArray)(q:Cf)(AB p:Nat):Prop:=AB<=p/\p<=s.size/\q.cur=(s.data.toList.take p).drop AB
theorem kE{s:ByteArray}{q:Cf}{AB p:Nat}(h:LF s q AB p):(⟨q.cur.toArray⟩:ByteArray)=s.extract AB p:=by
 obtain⟨h1,h2,h3⟩:=h;apply ByteArray.ext
 rw[h3];have e:(s.extract AB p).data=s.data.extract AB p:=by simp[ByteArray.data_extract]
 rw[e];apply Array.ext'
 rw[Array.toList_extract];simp[List.extract,List.drop_take]
theorem RSZ.wordSet{B R:Nat}{w0:Fx}{w:Ab}{s:ByteArray}{q:Cf}{AB:Nat}{wv ev:Ao}{wS:Ab}(h:RSZ B R w0 w s q AB wv ev wS)(z:Int):RSZ B R w0 (w.setCell ⟨R,4,none⟩ (.int .i64 z)) s { q with el:=z } AB wv ev wS:=
 ⟨h.bx.p4 z,h.ow,h.si.set h.bx.not_lst 4 _,Kg h.wo (.inr rfl) h.bx.not_lst 4 _,h.br,h.bl.set h.br h.bx 4 _⟩
theorem RSZ.go{B R:Nat}{w0:Fx}{w w':Ab}{s:ByteArray}{q:Cf}{AB:Nat}{wv ev:Ao}{wS:Ab}(h:RSZ B R w0 w s q AB wv ev wS)(hb:Blw w w'):RSZ B R w0 w' s q AB wv ev wS:=
 ⟨h.bx.same (hb.block R h.bx.lt),h.ow,h.si.below hb,JY h.wo (fun g hg=>hb.block g (h.wo.lt g hg).2),h.br,h.bl.go hb (by have:=h.br;have:=h.bx.lt;omega)⟩
theorem RSZ.pushW{B R:Nat}{w0:Fx}{w w4:Ab}{s:ByteArray}{q:Cf}{AB:Nat}{wv ev v':Ao}{wS:Ab}(h:RSZ B R w0 w s q AB wv ev wS)(t:ByteArray)(k:Bool)(h5:w4.ownsRow wS.heap.size 167 2 v' (q.ws.length+1) (Cx q.ws++Cx [(t,k)]))(h6:(w.alloc (.cells #[.string t,.bool k] 167)).grownBy w4 wv.ownBlock) :
  Bx w4 R s q.line q.op AB q.el q.bl wv ev/\RSZ B R w0 (w4.setCell ⟨R,6,none⟩ v') s { q with ws:=q.ws++[(t,k)] } AB v' ev wS:=by
 have ha:=h.go (BS w (.cells #[.string t,.bool k] 167));have hne:some R≠wv.ownBlock:=fun e=>by
  obtain⟨cur,hc⟩:=Hv ha.wo R e.symm;exact ha.bx.not_lst ⟨cur,167,hc,.inr rfl⟩
 have b4:Bx w4 R s q.line q.op AB q.el q.bl wv ev:=ha.bx.same (h6.block R ha.bx.lt hne);refine⟨b4,b4.p6 v',h.ow,(ha.si.grown h6 (fun k e=>(ha.wo.lt k e).1)).set b4.not_lst 6 _,?_,h.br,?_⟩
 ·have:w4.ownsRow wS.heap.size 167 2 v' (q.ws++[(t,k)]).length (Cx (q.ws++[(t,k)])):=by
   rw[WN,Af];exact h5
  exact Kg this (.inr rfl) b4.not_lst 6 _
 ·have hB:B<=wS.heap.size:=h.si.1;exact(ha.bl.grown h6 (Aj hB (ha.si.2.1)) (fun k e=>⟨Aj hB (ha.wo.lt k e).1,by
   obtain⟨cur,hc⟩:=Hv ha.wo k e;exact⟨cur,167,hc,.inr rfl⟩⟩)).set h.br b4 6 _
def KpP(B R:Nat)(w0:Fx)(s:ByteArray)(q:Cf)(AB:Nat)(k:Bool)(e:Ending)(w':Ab):Prop:=
 ∃er:Nat,e=.returned (.int .i64 er)/\Hid ((EV q k=none/\er=3/\∃wv ev wS,RSZ B R w0 w' s q AB wv ev wS)∨(er=0/\∃q',EV q k=some q'/\∃wv ev wS,RSZ B R w0 w' s q' AB wv ev wS))
theorem XK(B R:Nat)(w0:Fx)(w:Ab)(s:ByteArray)(q:Cf)(AB:Nat)(wv ev:Ao)(wS:Ab)(p:Nat)(k:Bool)(h:RSZ B R w0 w s q AB wv ev wS)(hw:q.ws.length<=64)(hc:LF s q AB p)(hs:s.size<=1000000) :
  Ag Aa 156 #[.pointer (some ⟨R,0,none⟩),.int .i64 p,.bool k] w (KpP B R w0 s q AB k):=by
 obtain⟨⟨xa,xn,xc⟩,rfl,hW⟩:=Qs h.wo;have hn:=hW.1;simp only at hn h;subst hn;have c6:=h.bx.c6;by_cases h64:q.ws.length=64
 ·have HR:=Ac h;have HK:Hid (EV q k=none):=(by show EV q k=none;simp[EV,h64]);rw[h64]at c6;clear h hW hc;go_enter Tryz.func156,Tryz.ntmps156;go_wp2_with fail;go_ret;exact⟨3,rfl,.inl ⟨HK.out,rfl,_,_,_,HR.out⟩⟩
 ·have HK:Hid (EV q k=some { q with el:=if q.ws.isEmpty then q.line else q.el,ws:=q.ws++[(s.extract AB p,k)] }):=(by
   show EV q k=_;simp only[EV,if_neg h64,GF,kE hc])
  have hst:AB<=p:=hc.1;have hps:p<=s.size:=hc.2.1;have hst':(AB:Int)<=(p:Int):=by omega
  have hps':(p:Int)<=(s.size:Int):=by omega
  have K73:Hid (∀w,Ag Aa 192 #[.string (s.extract AB p)] w fun e w'=>e=.returned (.string (s.extract AB p))/\Hid (Blw w w')):=fun w=>pJ _ w (by simp;omega)
  obtain⟨i27,hi,hz0,hz1,hz2⟩:=wJ;have HI:Hid (Aa.info? 167=some i27/\i27.zero=some (.agg #[.string ⟨#[]⟩,.bool false])/\i27.size=2/\i27.bytes=24):=⟨hi,hz0,hz1,hz2⟩;have hn64:¬ (q.ws.length:Int)=64:=by omega
  have hn64b:((q.ws.length:Int) == 64)=false:=by simpa using hn64
  have hx64:q.ws.length<64:=by omega
  clear hi hz0 hz1 hz2 hW hc h64 hw
  -- what stands behind the first two lines
  have REST:∀(W:Ab) (q1:Cf),q1.ws=q.ws->RSZ B R w0 W s q1 AB (.slice xa q.ws.length xc) ev wS->∀(W2:Ab),Blw W W2->∀(w4:Ab) (v':Ao),w4.ownsRow wS.heap.size 167 2 v' (q.ws.length+1) (Cx q.ws++Cx [(s.extract AB p,k)])->(W2.alloc (.cells #[.string (s.extract AB p),.bool k] 167)).grownBy w4 (Ce xa q.ws.length xc).ownBlock->Bx w4 R s q1.line q1.op AB q1.el q1.bl (.slice xa q.ws.length xc) ev/\RSZ B R w0 (w4.setCell ⟨R,6,none⟩ v') s { q1 with ws:=q.ws++[(s.extract AB p,k)] } AB v' ev wS:=by
   intro W q1 e1 hW W2 hb w4 v' h5 h6;have:=(hW.go hb).pushW (s.extract AB p) k (w4:=w4) (v':=v') (by rw[e1];exact h5) h6;rw[e1]at this;exact this
  have HREST:=Ac REST;clear REST;have hB:wS.heap.size<=w.heap.size:=h.si.2.1;by_cases h0:q.ws=[]
  ·have hx0:q.ws.length=0:=by rw[h0];rfl
   have HZ:=Ac h0;have HZL:=Ac hx0;rw[hx0]at h c6 HREST;have HW:=Ac (h.wordSet (q.line:Int));have c1:=h.bx.c1;have c4:=h.bx.c4;have f4:=h.bx.fz 4;have hlt:=h.bx.lt;have d0:=HW.out.bx.c0;have d3:=HW.out.bx.c3;have hla:=HW.out.bx.lt;have HE0:Hid (Below (w.setCell ⟨R,4,none⟩ (.int .i64 (q.line:Int))).heap.size (w.setCell ⟨R,4,none⟩ (.int .i64 (q.line:Int))) (w.setCell ⟨R,4,none⟩ (.int .i64 (q.line:Int))).drew):=((Ae _ _).drew);clear h h0;clear hx0 hn64 hn64b hx64;go_enter Tryz.func156,Tryz.ntmps156;go_wp2_with fail;generalize w.setCell ⟨R,4,none⟩ (.int .i64 (q.line:Int))=wa at*
   go_region_held3 (fun W=>W.cell? ⟨R,0,none⟩=some (.string s)/\W.cell? ⟨R,3,none⟩=some (.int .i64 AB)) (first|exact⟨d0,d3⟩|exact⟨(HB1.out.cell (p:=⟨R,0,none⟩) hla).trans d0,(HB1.out.cell (p:=⟨R,3,none⟩) hla).trans d3⟩) (first
    |(go_simp;go_at_call 192;refine(K73.out _).mono ?_;rintro e w1 ⟨rfl,HB1⟩)
    |fail)
   all_goals
    have HB2:Hid (Blw wa w1):=HE0.out.trans HB1.out;have HW1:=Ac (HW.out.go HB2.out);have g6:=HW1.out.bx.c6;have HO:=Ac (HW1.out.wo.alloc (.cells #[.string (s.extract AB p),.bool k] 167));have hB1:wS.heap.size<=w1.heap.size:=HW1.out.si.2.1;have HN1:=Ac (Tn w1 (s.extract AB p) k);clear HB1;go_wp2_with (at_builtin;go_loud (refine wpList_append_own _ rfl _ _ 118 rfl wS.heap.size 167 i27 _ 2 24 Tryz.underlying118 HI.out.1 HI.out.2.1 HI.out.2.2.1 HI.out.2.2.2 rfl (by omega) _ 0 (Cx q.ws) rfl (by have t:=HO.out;rw[show({ q with el:=(q.line:Int) }:Cf).ws.length=0 from HZL.out]at t;exact t) ⟨w1.heap.size,0,none⟩ 1 1 (Cx [(s.extract AB p,k)]) rfl rfl HN1.out (QI _) (by simp only[Gi];omega) (by omega) (by simp;omega) ?_);intro v' w4 h5 h6 h7;obtain⟨g',cap',rfl,_,_⟩:=h5.form (by omega);have HF:=Ac (HREST.out wa { q with el:=(q.line:Int) } rfl HW.out w1 HB2.out w4 _ h5 h6);have k6:=HF.out.1.c6;have kz:=HF.out.1.fz 6;have kl:=HF.out.1.lt;clear h5 h6 h7);go_ret;have he:q.ws.isEmpty=true:=by rw[HZ.out];rfl
    simp only[he,if_true]at HK;exact⟨0,rfl,.inr ⟨rfl,_,HK.out,_,_,_,HF.out.2⟩⟩
  ·have HNE:=Ac h0;have hx0:¬ (q.ws.length:Int)=0:=by
    have:q.ws.length≠0:=fun e=>h0 (Aq.1 e)
    omega
   have hx0b:((q.ws.length:Int) == 0)=false:=by simpa using hx0
   have HW:=Ac h;have d0:=h.bx.c0;have d3:=h.bx.c3;have hla:=h.bx.lt;have HE0:Hid (Blw w w.drew):=((Ae _ _).drew);clear h h0;go_enter Tryz.func156,Tryz.ntmps156;go_wp2_with fail
   go_region_held3 (fun W=>W.cell? ⟨R,0,none⟩=some (.string s)/\W.cell? ⟨R,3,none⟩=some (.int .i64 AB)) (first|exact⟨d0,d3⟩|exact⟨(HB1.out.cell (p:=⟨R,0,none⟩) hla).trans d0,(HB1.out.cell (p:=⟨R,3,none⟩) hla).trans d3⟩) (first
    |(go_simp;go_at_call 192;refine(K73.out _).mono ?_;rintro e w1 ⟨rfl,HB1⟩)
    |fail)
   all_goals
    have HB2:Hid (Blw w w1):=HE0.out.trans HB1.out;have HW1:=Ac (HW.out.go HB2.out);have g6:=HW1.out.bx.c6;have HO:=Ac (HW1.out.wo.alloc (.cells #[.string (s.extract AB p),.bool k] 167));have hB1:wS.heap.size<=w1.heap.size:=HW1.out.si.2.1;have HN1:=Ac (Tn w1 (s.extract AB p) k);clear HB1;go_wp2_with (at_builtin;go_loud (refine wpList_append_own _ rfl _ _ 118 rfl wS.heap.size 167 i27 _ 2 24 Tryz.underlying118 HI.out.1 HI.out.2.1 HI.out.2.2.1 HI.out.2.2.2 rfl (by omega) _ q.ws.length (Cx q.ws) rfl HO.out ⟨w1.heap.size,0,none⟩ 1 1 (Cx [(s.extract AB p,k)]) rfl rfl HN1.out (QI _) (by simp only[Gi];omega) (by omega) (by simp;omega) ?_);intro v' w4 h5 h6 h7;obtain⟨g',cap',rfl,_,_⟩:=h5.form (by omega);have HF:=Ac (HREST.out w q rfl HW.out w1 HB2.out w4 _ h5 h6);have k6:=HF.out.1.c6;have kz:=HF.out.1.fz 6;have kl:=HF.out.1.lt;clear h5 h6 h7);go_ret;have he:q.ws.isEmpty=false:=by
     cases hq:q.ws with
     |nil=>exact absurd hq HNE.out
     |cons=>rfl
    simp only[he,Bi,if_false]at HK;exact⟨0,rfl,.inr ⟨rfl,_,HK.out,_,_,_,HF.out.2⟩⟩
def StQ(B R:Nat)(w0:Fx)(s:ByteArray)(p:Nat)(ln:Nat)(k er:Nat)(w':Ab):Rs->Prop
 | .ok q'=>k=q'.st/\er=0/\∃AB wv ev wS,RSZ B R w0 w' s q' AB wv ev wS/\((q'.st=1∨q'.st=2∨q'.st=3∨q'.st=4)->LF s q' AB (p+1))
 | .er n=>er=n/\∃q' AB wv ev wS,q'.line=ln/\RSZ B R w0 w' s q' AB wv ev wS
def StP(B R:Nat)(w0:Fx)(s:ByteArray)(p:Nat)(ln:Nat)(r:Rs)(e:Ending)(w':Ab):Prop:=
 ∃k er:Nat,e=.returned (.tuple #[.int .u8 k,.int .i64 er])/\Hid (StQ B R w0 s p ln k er w' r)
theorem RSZ.setQ{B R:Nat}{w0:Fx}{w:Ab}{s:ByteArray}{q:Cf}{AB:Nat}{wv ev:Ao}{wS:Ab}(h:RSZ B R w0 w s q AB wv ev wS)(k:Nat)(c:List UInt8):RSZ B R w0 w s { q with st:=k,cur:=c } AB wv ev wS:=⟨h.bx,h.ow,h.si,h.wo,h.br,h.bl⟩
theorem RSZ.setOp{B R:Nat}{w0:Fx}{w:Ab}{s:ByteArray}{q:Cf}{AB:Nat}{wv ev:Ao}{wS:Ab}(h:RSZ B R w0 w s q AB wv ev wS)(k o:Nat):RSZ B R w0 (w.setCell ⟨R,2,none⟩ (.int .i64 o)) s { q with st:=k,op:=o } AB wv ev wS:=
 ⟨h.bx.p2 o,h.ow,h.si.set h.bx.not_lst 2 _,Kg h.wo (.inr rfl) h.bx.not_lst 2 _,h.br,h.bl.set h.br h.bx 2 _⟩
theorem RSZ.setLine{B R:Nat}{w0:Fx}{w:Ab}{s:ByteArray}{q:Cf}{AB:Nat}{wv ev:Ao}{wS:Ab}(h:RSZ B R w0 w s q AB wv ev wS)(k o:Nat):RSZ B R w0 (w.setCell ⟨R,1,none⟩ (.int .i64 o)) s { q with st:=k,line:=o } AB wv ev wS:=
 ⟨h.bx.p1 o,h.ow,h.si.set h.bx.not_lst 1 _,Kg h.wo (.inr rfl) h.bx.not_lst 1 _,h.br,h.bl.set h.br h.bx 1 _⟩
theorem RSZ.setStart{B R:Nat}{w0:Fx}{w:Ab}{s:ByteArray}{q:Cf}{AB:Nat}{wv ev:Ao}{wS:Ab}(h:RSZ B R w0 w s q AB wv ev wS)(k:Nat)(c:List UInt8)(o:Nat):RSZ B R w0 (w.setCell ⟨R,3,none⟩ (.int .i64 o)) s { q with st:=k,cur:=c } o wv ev wS:=
 ⟨h.bx.p3 o,h.ow,h.si.set h.bx.not_lst 3 _,Kg h.wo (.inr rfl) h.bx.not_lst 3 _,h.br,h.bl.set h.br h.bx 3 _⟩
theorem bz(c:UInt8)(k:UInt8)(h:c=k):((c.toNat:Nat):Int)=((k.toNat:Nat):Int):=by rw[h]
theorem nbz(c:UInt8)(k:UInt8)(h:¬ c=k):(((c.toNat:Nat):Int) == ((k.toNat:Nat):Int))=false:=by
 have:=PQ c k;unfold bI at this;rw[this];simpa using h
theorem FY(B R:Nat)(w0:Fx)(w:Ab)(s:ByteArray)(q:Cf)(AB:Nat)(wv ev:Ao)(wS:Ab)(p:Nat)(h:RSZ B R w0 w s q AB wv ev wS)(hp:p<s.size)(hs:s.size<=1000000)(hl:q.line<=1000000)(ho:q.op<=1000000)(he:q.es.length<=1000000) :
  Ag Aa 122 #[.pointer (some ⟨R,0,none⟩),.int .i64 p] w (StP B R w0 s p q.line (EH q s[p] (s.data.toList.drop (p+1)))):=by
 have c0:=h.bx.c0;have c1:=h.bx.c1;have c2:=h.bx.c2;have f1:=h.bx.fz 1;have f2:=h.bx.fz 2;have hlt:=h.bx.lt;have hp':(p:Int)<(s.size:Int):=by omega
 have n59:=nbz s[p] 59;have n40:=nbz s[p] 40;have n41:=nbz s[p] 41;have n10:=nbz s[p] 10;simp only[show((59:UInt8).toNat:Int)=59 from rfl,show((40:UInt8).toNat:Int)=40 from rfl,show((41:UInt8).toNat:Int)=41 from rfl,show((10:UInt8).toNat:Int)=10 from rfl]at n59 n40 n41 n10;have HR:=Ac h;by_cases h59:s[p]=59
 ·have e:=bz s[p] 59 h59;have HX:Hid (EH q s[p] (s.data.toList.drop (p+1))=.ok { q with st:=6 }):=(by show _=_;simp[EH,JG,h59]);rw[HX.out];have e':((s[p].toNat:Nat):Int)=59:=e;clear h n59 n40 n41 n10 h59 e HX;go_enter Hg,Gh;go_wp2_with fail;go_ret2;exact⟨6,0,rfl,rfl,rfl,_,_,_,_,HR.out.setQ 6 q.cur,by simp⟩
 ·by_cases h40:s[p]=40
  ·have e':((s[p].toNat:Nat):Int)=40:=bz s[p] 40 h40;have HX:Hid (EH q s[p] (s.data.toList.drop (p+1))=.ok { q with st:=0,op:=q.op+1 }):=(by show _=_;simp[EH,JG,h40]);rw[HX.out];have HO:=Ac (h.setOp 0 (q.op+1));clear h n59 n40 n41 n10 h40 h59 HX;go_enter Hg,Gh;go_wp2_with fail;go_ret2;exact⟨0,0,rfl,rfl,rfl,_,_,_,_,HO.out,by simp⟩
  ·by_cases h41:s[p]=41
   ·have e':((s[p].toNat:Nat):Int)=41:=bz s[p] 41 h41;by_cases hop:q.op=0
    ·have HX:Hid (EH q s[p] (s.data.toList.drop (p+1))=.er 230):=(by show _=_;simp[EH,JG,h41,hop]);rw[HX.out];rw[hop]at c2;clear h n59 n40 n41 n10 h41 h40 h59 HX hop;go_enter Hg,Gh;go_wp2_with fail;go_ret2;exact⟨0,230,rfl,rfl,_,_,_,_,_,rfl,HR.out⟩
    ·have HX:Hid (EH q s[p] (s.data.toList.drop (p+1))=.ok { q with st:=0,op:=q.op - 1 }):=(by show _=_;simp[EH,JG,h41,hop]);rw[HX.out];have HO:=Ac (h.setOp 0 (q.op - 1));have hop1:¬ (q.op:Int)=0:=by omega
     have hop2:((q.op:Int) == 0)=false:=by simpa using hop1
     have hz:((q.op - 1:Nat):Int)=(q.op:Int) - 1:=by omega
     rw[hz]at HO;clear h n59 n40 n41 n10 h41 h40 h59 HX hop hz;go_enter Hg,Gh;go_wp2_with fail;go_ret2;exact⟨0,0,rfl,rfl,rfl,_,_,_,_,HO.out,by simp⟩
   ·by_cases h10:s[p]=10
    ·have e':((s[p].toNat:Nat):Int)=10:=bz s[p] 10 h10;have HL:=Ac (h.setLine 0 (q.line+1));have d2:=HL.out.bx.c2;by_cases hop:q.op=0
     ·have HX:Hid (EH q s[p] (s.data.toList.drop (p+1))=.ok (DV (BP { q with st:=0,line:=q.line+1 }) (s.data.toList.drop (p+1)))):=(by show _=_;simp[EH,JG,h10,hop]);rw[HX.out];have KC:Hid (∀W,RSZ B R w0 W s { q with st:=0,line:=q.line+1 } AB wv ev wS->Ag Aa 157 #[.pointer (some ⟨R,0,none⟩)] W fun e w'=>e=.returned (.tuple #[])/\Hid (∃wv' ev',RC B R w0 w' s (BP { q with st:=0,line:=q.line+1 }) AB wv' ev')):=fun W hW=>Uv B R w0 W s _ AB wv ev wS hW he
      have KB:Hid (∀W wv' ev',RC B R w0 W s (BP { q with st:=0,line:=q.line+1 }) AB wv' ev'->Ag Aa 82 #[.pointer (some ⟨R,0,none⟩),.int .i64 ((p+1:Nat):Int)] W fun e w'=>e=.returned (.tuple #[])/\Hid (∃wS,RSZ B R w0 w' s (DV (BP { q with st:=0,line:=q.line+1 }) (s.data.toList.drop (p+1))) AB (.slice none 0 0) ev' wS)):=fun W wv' ev' hW=>Zx B R w0 W s _ AB wv' ev' (p+1) hW (by omega)
      rw[hop]at d2;rw[show((p+1:Nat):Int)=(p:Int)+1 by omega]at KB;rw[show((q.line+1:Nat):Int)=(q.line:Int)+1 by omega]at HL d2;clear h n59 n40 n41 n10 h41 h40 h59 h10 HX hop c2;go_enter Hg,Gh;go_wp2_with fail;refine(KC.out _ HL.out).mono ?_;rintro e w1 ⟨rfl,H1⟩;obtain⟨wv',ev',hrc⟩:=H1.out;have H2:=Ac hrc;clear hrc H1;go_wp2_with fail;refine(KB.out _ _ _ H2.out).mono ?_;rintro e w2 ⟨rfl,H3⟩;go_wp2_with fail;go_ret2;obtain⟨wS',h3⟩:=H3.out;exact⟨0,0,rfl,rfl,rfl,_,_,_,_,h3,by simp[DV,BP]⟩
     ·have HX:Hid (EH q s[p] (s.data.toList.drop (p+1))=.ok { q with st:=0,line:=q.line+1 }):=(by show _=_;simp[EH,JG,h10,hop]);rw[HX.out];have hop1:¬ (q.op:Int)=0:=by omega
      have hop2:((q.op:Int) == 0)=false:=by simpa using hop1
      rw[show((q.line+1:Nat):Int)=(q.line:Int)+1 by omega]at HL d2;clear h n59 n40 n41 n10 h41 h40 h59 h10 HX hop;go_enter Hg,Gh;go_wp2_with fail;go_ret2;exact⟨0,0,rfl,rfl,rfl,_,_,_,_,HL.out,by simp⟩
    ·have HX:Hid (EH q s[p] (s.data.toList.drop (p+1))=.ok { q with st:=0 }):=(by show _=_;simp[EH,JG,h59,h40,h41,h10]);rw[HX.out];have m59:=n59 h59;have m40:=n40 h40;have m41:=n41 h41;have m10:=n10 h10;clear h n59 n40 n41 n10 h41 h40 h59 h10 HX;go_enter Hg,Gh;go_wp2_with fail;go_ret2;exact⟨0,0,rfl,rfl,rfl,_,_,_,_,HR.out.setQ 0 q.cur,by simp⟩
theorem RSZ.setStartI{B R:Nat}{w0:Fx}{w:Ab}{s:ByteArray}{q:Cf}{AB:Nat}{wv ev:Ao}{wS:Ab}(h:RSZ B R w0 w s q AB wv ev wS)(k:Nat)(c:List UInt8)(o:Nat)(z:Int)(hz:z=(o:Int)):RSZ B R w0 (w.setCell ⟨R,3,none⟩ (.int .i64 z)) s { q with st:=k,cur:=c } o wv ev wS:=by
 subst hz;exact h.setStart k c o
theorem SU(s:ByteArray)(p:Nat)(h:p<s.size):s.data.toList.take (p+1)=s.data.toList.take p++[s[p]]:=by
 rw[AH (by simpa using h)];rfl
theorem LF.push{s:ByteArray}{q:Cf}{AB p:Nat}(h:LF s q AB p)(hp:p<s.size)(k:Nat):LF s { q with st:=k,cur:=q.cur++[s[p]] } AB (p+1):=by
 obtain⟨h1,h2,h3⟩:=h;refine⟨by omega,by omega,?_⟩;simp only;rw[SU s p hp,List.drop_append_of_le_length (by simp;omega),h3]
theorem LF.one{s:ByteArray}(q:Cf){p:Nat}(hp:p<s.size)(k:Nat):LF s { q with st:=k,cur:=[s[p]] } p (p+1):=by
 refine⟨by omega,by omega,?_⟩;simp only;rw[SU s p hp,List.drop_append_of_le_length (by simp;omega),NU (by simp;omega)];rfl
theorem LF.none{s:ByteArray}(q:Cf){p:Nat}(hp:p<s.size)(k:Nat):LF s { q with st:=k,cur:=[] } (p+1) (p+1):=by
 refine⟨by omega,by omega,?_⟩;simp only;rw[NU (by simp;omega)]
theorem Ql(B R:Nat)(w0:Fx)(w:Ab)(s:ByteArray)(q:Cf)(AB:Nat)(wv ev:Ao)(wS:Ab)(p:Nat)(h:RSZ B R w0 w s q AB wv ev wS)(hp:p<s.size)(hs:s.size<=1000000)(hl:q.line<=1000000)(ho:q.op<=1000000)(he:q.es.length<=1000000) :
  Ag Aa 118 #[.pointer (some ⟨R,0,none⟩),.int .i64 p] w (StP B R w0 s p q.line (FG q s[p] (s.data.toList.drop (p+1)))):=by
 have c0:=h.bx.c0;have c3:=h.bx.c3;have f3:=h.bx.fz 3;have hlt:=h.bx.lt;have hp':(p:Int)<(s.size:Int):=by omega
 have K50:=Ac (fun w=>JH ((s[p].toNat:Nat):Int) w);have HZ:Hid (Jc ((s[p].toNat:Nat):Int)=DJ s[p]):=FM s[p];rw[HZ.out]at K50;have HR:=Ac h;cases hen:DJ s[p] with
 |true=>
  have KO:=Ac (FY B R w0 w s q AB wv ev wS p h hp hs hl ho he);have HX:Hid (FG q s[p] (s.data.toList.drop (p+1))=EH q s[p] (s.data.toList.drop (p+1))):=(by show _=_;simp[FG,hen]);rw[HX.out];rw[hen]at K50;clear h HX HZ hen;go_enter Tryz.func118,OQ;go_wp2_with fail;refine(K50.out _).mono ?_;rintro e w1 ⟨rfl,rfl⟩;go_wp2_with fail;refine KO.out.mono ?_;rintro e w2 ⟨k,er,rfl,H2⟩;go_wp2_with fail;go_ret2;exact⟨k,er,rfl,H2⟩
 |false=>
  rw[hen]at K50;have HX:Hid (FG q s[p] (s.data.toList.drop (p+1))=if s[p]=34 then .ok { q with st:=3,cur:=[] } else if s[p]=92 then .ok { q with st:=2,cur:=[s[p]] } else .ok { q with st:=1,cur:=[s[p]] }):=(by show _=_;simp[FG,hen]);rw[HX.out];have n34:=nbz s[p] 34;have n92:=nbz s[p] 92;simp only[show((34:UInt8).toNat:Int)=34 from rfl,show((92:UInt8).toNat:Int)=92 from rfl]at n34 n92;by_cases h34:s[p]=34
  ·have e':((s[p].toNat:Nat):Int)=34:=bz s[p] 34 h34;simp only[e']at K50;rw[if_pos h34];have HS0:=Ac (h.setStart 0 q.cur p);have HS:=Ac (HS0.out.setStartI 3 [] (p+1) ((p:Int)+1) (by omega));have d3:=HS0.out.bx.c3;have g3:=HS0.out.bx.fz 3;have HC:=Ac (LF.none (s:=s) q hp 3);clear h HX HZ hen n34 n92 h34;go_enter Tryz.func118,OQ;go_wp2_with fail;refine(K50.out _).mono ?_;rintro e w1 ⟨rfl,rfl⟩;go_wp2_with fail;go_ret2;exact⟨3,0,rfl,rfl,rfl,_,_,_,_,HS.out,fun _=>HC.out⟩
  ·rw[if_neg h34];have m34:=n34 h34;by_cases h92:s[p]=92
   ·have e':((s[p].toNat:Nat):Int)=92:=bz s[p] 92 h92;simp only[e']at K50;rw[if_pos h92];have HS:=Ac (h.setStart 2 [s[p]] p);have HC:=Ac (LF.one (s:=s) q hp 2);clear h HX HZ hen n34 n92 h34 h92 m34;go_enter Tryz.func118,OQ;go_wp2_with fail;refine(K50.out _).mono ?_;rintro e w1 ⟨rfl,rfl⟩;go_wp2_with fail;go_ret2;exact⟨2,0,rfl,rfl,rfl,_,_,_,_,HS.out,fun _=>HC.out⟩
   ·rw[if_neg h92];have m92:=n92 h92;have HS:=Ac (h.setStart 1 [s[p]] p);have HC:=Ac (LF.one (s:=s) q hp 1);clear h HX HZ hen n34 n92 h34 h92;go_enter Tryz.func118,OQ;go_wp2_with fail;refine(K50.out _).mono ?_;rintro e w1 ⟨rfl,rfl⟩;go_wp2_with fail;go_ret2;exact⟨1,0,rfl,rfl,rfl,_,_,_,_,HS.out,fun _=>HC.out⟩
theorem Uu(B R:Nat)(w0:Fx)(w:Ab)(s:ByteArray)(q:Cf)(AB:Nat)(wv ev:Ao)(wS:Ab)(p:Nat)(h:RSZ B R w0 w s q AB wv ev wS)(hc:LF s q AB p)(hp:p<s.size)(hs:s.size<=1000000)(hl:q.line<=1000000)(ho:q.op<=1000000)(he:q.es.length<=1000000)(hw:q.ws.length<=64) :
  Ag Aa 119 #[.pointer (some ⟨R,0,none⟩),.int .i64 p] w (StP B R w0 s p q.line (Hw q s[p] (s.data.toList.drop (p+1)))):=by
 have c0:=h.bx.c0;have hlt:=h.bx.lt;have hp':(p:Int)<(s.size:Int):=by omega
 have K50:=Ac (fun w=>JH ((s[p].toNat:Nat):Int) w);have HZ:Hid (Jc ((s[p].toNat:Nat):Int)=DJ s[p]):=FM s[p];rw[HZ.out]at K50;have HR:=Ac h;cases hen:DJ s[p] with
 |true=>
  have KK:=Ac (XK B R w0 w s q AB wv ev wS p false h hw hc hs);rw[hen]at K50;cases hk:EV q false with
  |none=>
   have HX:Hid (Hw q s[p] (s.data.toList.drop (p+1))=.er 3):=(by show _=_;simp[Hw,hen,hk]);rw[HX.out];have HKK:=Ac hk;clear h HX HZ hen hk;go_enter Mw,Lq;go_wp2_with fail;refine(K50.out _).mono ?_;rintro e w1 ⟨rfl,rfl⟩;go_wp2_with fail;refine KK.out.mono ?_;rintro e w2 ⟨er,rfl,H2⟩;obtain⟨k1,rfl,wv2,ev2,wS2,k3⟩|⟨rfl,q',k1,start2,wv2,ev2,k3⟩:=H2.out
   ·have H3:=Ac k3;clear H2 k1 k3;go_wp2_with fail;go_ret2;exact⟨0,3,rfl,rfl,_,_,_,_,_,rfl,H3.out⟩
   ·exfalso
    rw[HKK.out]at k1;cases k1
  |some q'=>
   have HX:Hid (Hw q s[p] (s.data.toList.drop (p+1))=EH q' s[p] (s.data.toList.drop (p+1))):=(by show _=_;simp[Hw,hen,hk]);rw[HX.out];have HKK:=Ac hk;have KO:Hid (∀W AB wv ev wS,RSZ B R w0 W s q' AB wv ev wS->Ag Aa 122 #[.pointer (some ⟨R,0,none⟩),.int .i64 p] W (StP B R w0 s p q.line (EH q' s[p] (s.data.toList.drop (p+1))))):=fun W AB wv ev wS hW=>by
    have h1:=Ow hk;have h2:=Mx hk;have:=FY B R w0 W s q' AB wv ev wS p hW hp hs (by omega) (by omega) (by rw[h1.1];exact he);rw[h2]at this;exact this
   clear h HX HZ hen hk;go_enter Mw,Lq;go_wp2_with fail;refine(K50.out _).mono ?_;rintro e w1 ⟨rfl,rfl⟩;go_wp2_with fail;refine KK.out.mono ?_;rintro e w2 ⟨er,rfl,H2⟩;obtain⟨k1,rfl,wv2,ev2,wS2,k3⟩|⟨rfl,q2,k1,wv2,ev2,wS2,k3⟩:=H2.out
   ·exfalso
    rw[HKK.out]at k1;cases k1
   ·rw[HKK.out]at k1;cases k1;have KO2:=Ac (KO.out w2 _ _ _ _ k3);clear H2 k3 KO;go_wp2_with fail;refine KO2.out.mono ?_;rintro e w3 ⟨k,er,rfl,H4⟩;go_wp2_with fail;go_ret2;exact⟨k,er,rfl,H4⟩
 |false=>
  rw[hen]at K50;have HX:Hid (Hw q s[p] (s.data.toList.drop (p+1))=if s[p]=34 then .er 230 else if s[p]=92 then .ok { q with st:=2,cur:=q.cur++[s[p]] } else .ok { q with st:=1,cur:=q.cur++[s[p]] }):=(by show _=_;simp[Hw,hen]);rw[HX.out];have n34:=nbz s[p] 34;have n92:=nbz s[p] 92;simp only[show((34:UInt8).toNat:Int)=34 from rfl,show((92:UInt8).toNat:Int)=92 from rfl]at n34 n92;by_cases h34:s[p]=34
  ·have e':((s[p].toNat:Nat):Int)=34:=bz s[p] 34 h34;simp only[e']at K50;rw[if_pos h34];clear h HX HZ hen n34 n92 h34;go_enter Mw,Lq;go_wp2_with fail;refine(K50.out _).mono ?_;rintro e w1 ⟨rfl,rfl⟩;go_wp2_with fail;go_ret2;exact⟨0,230,rfl,rfl,_,_,_,_,_,rfl,HR.out⟩
  ·rw[if_neg h34];have m34:=n34 h34;by_cases h92:s[p]=92
   ·have e':((s[p].toNat:Nat):Int)=92:=bz s[p] 92 h92;simp only[e']at K50;rw[if_pos h92];have HS:=Ac (h.setQ 2 (q.cur++[s[p]]));have HC:=Ac (hc.push hp 2);clear h HX HZ hen n34 n92 h34 h92 m34 hc;go_enter Mw,Lq;go_wp2_with fail;refine(K50.out _).mono ?_;rintro e w1 ⟨rfl,rfl⟩;go_wp2_with fail;go_ret2;exact⟨2,0,rfl,rfl,rfl,_,_,_,_,HS.out,fun _=>HC.out⟩
   ·rw[if_neg h92];have m92:=n92 h92;have HS:=Ac (h.setQ 1 (q.cur++[s[p]]));have HC:=Ac (hc.push hp 1);clear h HX HZ hen n34 n92 h34 h92 hc;go_enter Mw,Lq;go_wp2_with fail;refine(K50.out _).mono ?_;rintro e w1 ⟨rfl,rfl⟩;go_wp2_with fail;go_ret2;exact⟨1,0,rfl,rfl,rfl,_,_,_,_,HS.out,fun _=>HC.out⟩
theorem lL(B R:Nat)(w0:Fx)(w:Ab)(s:ByteArray)(q:Cf)(AB:Nat)(wv ev:Ao)(wS:Ab)(p:Nat)(h:RSZ B R w0 w s q AB wv ev wS)(hc:LF s q AB p)(hp:p<s.size)(hs:s.size<=1000000)(hw:q.ws.length<=64) :
  Ag Aa 120 #[.pointer (some ⟨R,0,none⟩),.int .i64 p] w (StP B R w0 s p q.line (Ht q s[p])):=by
 have c0:=h.bx.c0;have hlt:=h.bx.lt;have hp':(p:Int)<(s.size:Int):=by omega
 have HR:=Ac h;have n34:=nbz s[p] 34;have n92:=nbz s[p] 92;simp only[show((34:UInt8).toNat:Int)=34 from rfl,show((92:UInt8).toNat:Int)=92 from rfl]at n34 n92;by_cases h34:s[p]=34
 ·have e':((s[p].toNat:Nat):Int)=34:=bz s[p] 34 h34;have KK:=Ac (XK B R w0 w s q AB wv ev wS p true h hw hc hs);obtain⟨X,hX⟩:∃X,Ht q s[p]=X:=⟨_,rfl⟩;have HX:Hid (X=match EV q true with|none=>.er 3|some q'=>.ok { q' with st:=5 }):=(by show _=_;rw[<- hX];simp only[Ht,h34,if_true];rfl);rw[hX];clear h n34 n92 h34 hX;go_enter Tryz.func120,Tryz.ntmps120;go_wp2_with fail;refine KK.out.mono ?_;rintro e w2 ⟨er,rfl,H2⟩;have H3:Hid (StQ B R w0 s p q.line 5 er w2 X):=by
   rw[HX.out];obtain⟨k1,rfl,wv2,ev2,wS2,k3⟩|⟨rfl,q',k1,start2,wv2,ev2,k3⟩:=H2.out
   ·rw[k1];exact⟨rfl,_,_,_,_,_,rfl,k3⟩
   ·rw[k1];exact⟨rfl,rfl,_,_,_,_,k3.setQ 5 q'.cur,by simp⟩
  clear H2;go_wp2_with fail;go_ret2;exact⟨5,er,rfl,H3⟩
 ·have m34:=n34 h34;by_cases h92:s[p]=92
  ·have e':((s[p].toNat:Nat):Int)=92:=bz s[p] 92 h92;have HX:Hid (Ht q s[p]=.ok { q with st:=4,cur:=q.cur++[s[p]] }):=(by show _=_;simp[Ht,h34,h92]);rw[HX.out];have HS:=Ac (h.setQ 4 (q.cur++[s[p]]));have HC:=Ac (hc.push hp 4);clear h HX n34 n92 h34 h92 hc m34;go_enter Tryz.func120,Tryz.ntmps120;go_wp2_with fail;go_ret2;exact⟨4,0,rfl,rfl,rfl,_,_,_,_,HS.out,fun _=>HC.out⟩
  ·have m92:=n92 h92;have HX:Hid (Ht q s[p]=.ok { q with st:=3,cur:=q.cur++[s[p]] }):=(by show _=_;simp[Ht,h34,h92]);rw[HX.out];have HS:=Ac (h.setQ 3 (q.cur++[s[p]]));have HC:=Ac (hc.push hp 3);clear h HX n34 n92 h34 h92 hc;go_enter Tryz.func120,Tryz.ntmps120;go_wp2_with fail;go_ret2;exact⟨3,0,rfl,rfl,rfl,_,_,_,_,HS.out,fun _=>HC.out⟩
def FnQ(B R:Nat)(w0:Fx)(s:ByteArray)(a b:Nat)(w':Ab):Rt->Prop
 | .er e l=>a=e/\b=l/\Fr B w0 w'
 | .ok es=>a=0/\b=0/\∃q AB wv ev,q.es=es/\RC B R w0 w' s q AB wv ev
def FnP(B R:Nat)(w0:Fx)(s:ByteArray)(r:Rt)(e:Ending)(w':Ab):Prop:=
 ∃a b:Nat,e=.returned (.agg #[.int .i64 a,.int .i64 b])/\Hid (FnQ B R w0 s a b w' r)
def Fx.put(x:Fx)(j:Nat)(a b:Int):Fx:=⟨x.w,(j,a,b)::x.P⟩
theorem Fr.put{B:Nat}{x:Fx}{w:Ab}(h:Fr B x w)(j:Nat)(a b:Int)(hj:w.heap[j]?=some (.cells #[.int .i64 a,.int .i64 b] 50 (0,0))):Fr B (x.put j a b) w:=by
 refine⟨h.1,fun k hk=>?_⟩;obtain rfl|hk:=Ax.1 hk
 ·exact hj
 ·exact h.2 k hk
theorem Fr.cell{B:Nat}{x:Fx}{w:Ab}{j:Nat}{a b:Int}(h:Fr B (x.put j a b) w):w.heap[j]?=some (.cells #[.int .i64 a,.int .i64 b] 50 (0,0)):=h.2 (j,a,b) (by simp[Fx.put])
theorem Fr.pop{B:Nat}{x:Fx}{w:Ab}{j:Nat}{a b:Int}(h:Fr B (x.put j a b) w):Fr B x w:=⟨h.1,fun k hk=>h.2 k (by simp[Fx.put,hk])⟩
theorem RSZ.put{B R:Nat}{w0:Fx}{w:Ab}{s:ByteArray}{q:Cf}{AB:Nat}{wv ev:Ao}{wS:Ab}(h:RSZ B R w0 w s q AB wv ev wS)(j:Nat)(a b:Int)(hj:w.heap[j]?=some (.cells #[.int .i64 a,.int .i64 b] 50 (0,0))):RSZ B R (w0.put j a b) w s q AB wv ev wS:=⟨h.bx,h.ow,h.si,h.wo,h.br,h.bl.put j a b hj⟩
theorem RC.pop{B R:Nat}{w0:Fx}{w:Ab}{s:ByteArray}{q:Cf}{AB:Nat}{wv ev:Ao}{j:Nat}{a b:Int}(h:RC B R (w0.put j a b) w s q AB wv ev):RC B R w0 w s q AB wv ev:=⟨h.bx,h.ow,h.br,h.bl.pop⟩
theorem Dh{w:Ab}{j:Nat}{a b:Ao}(h:w.heap[j]?=some (.cells #[a,b] 50 (0,0))):w.cell? ⟨j,0,none⟩=some a:=by simp[Az,h]
theorem Ds{w:Ab}{j:Nat}{a b:Ao}(h:w.heap[j]?=some (.cells #[a,b] 50 (0,0))):w.cell? ⟨j,1,none⟩=some b:=by simp[Az,h]
theorem Ia{w:Ab}{j:Nat}{a b:Ao}(h:w.heap[j]?=some (.cells #[a,b] 50 (0,0)))(i:Nat):w.frozen? ⟨j,i,none⟩=false:=by simp[Dv,h]
theorem Gd{w:Ab}{j:Nat}{a b:Ao}(h:w.heap[j]?=some (.cells #[a,b] 50 (0,0))):j<w.heap.size:=(As.1 h).1
theorem Cp{w:Ab}{j:Nat}{a b:Ao}(h:w.heap[j]?=some (.cells #[a,b] 50 (0,0)))(x y:Ao):((w.setCell ⟨j,0,none⟩ x).setCell ⟨j,1,none⟩ y).heap[j]?=some (.cells #[x,y] 50 (0,0)):=by
 have h1:=AD h 0 x;have h2:=AD h1 1 y;simpa using h2
theorem Fr.res{B:Nat}{x:Fx}{w:Ab}{j:Nat}(h:Fr B x w)(hB:B<=j)(hj:∀p∈x.P,p.1≠j)(u v:Ao):Fr B x ((w.setCell ⟨j,0,none⟩ u).setCell ⟨j,1,none⟩ v):=by
 refine⟨(h.1.setCell (p:=⟨j,0,none⟩) hB _).setCell (p:=⟨j,1,none⟩) hB _,fun k hk=>?_⟩;have hne:=hj k hk;rw[Ar _ _ _ _ hne,Ar _ _ _ _ hne];exact h.2 k hk
theorem RC.res{B R:Nat}{w0:Fx}{w:Ab}{s:ByteArray}{q:Cf}{AB:Nat}{wv ev:Ao}{j:Nat}{a b:Ao}(h:RC B R w0 w s q AB wv ev)(hc:w.heap[j]?=some (.cells #[a,b] 50 (0,0)))(hB:B<=j)(hj:∀p∈w0.P,p.1≠j)(u v:Ao):RC B R w0 ((w.setCell ⟨j,0,none⟩ u).setCell ⟨j,1,none⟩ v) s q AB wv ev:=by
 have hnl:∀k,lst w k->k≠j:=fun k hk e=>by
  obtain⟨c,t,h1,h2⟩:=hk;rw[e,hc]at h1;cases h1;simp at h2
 have hR:R≠j:=fun e=>by
  have:=h.bx;unfold Bx at this;rw[e,hc]at this;cases this
 refine⟨h.bx.same (by rw[Ar _ _ _ _ hR,Ar _ _ _ _ hR]),h.ow.go (by simp) (fun k _ hk=>by rw[Ar _ _ _ _ (hnl k hk),Ar _ _ _ _ (hnl k hk)]),h.br,h.bl.res hB hj u v⟩
theorem lJ(B R:Nat)(w0:Fx)(w:Ab)(s:ByteArray)(q:Cf)(AB:Nat)(wv ev:Ao)(wS:Ab)(k:Nat)(h:RSZ B R w0 w s q AB wv ev wS)(hP:∀p∈w0.P,p.1<w.heap.size)(hs:s.size<=1000000)(hk:q.st=k)(hst:k=3∨k=2∨k=4) :
  Ag Aa 123 #[.pointer (some ⟨R,0,none⟩),.int .u8 k] w (FnP B R w0 s (MU (Ca s.data.toList) q)):=by
 have HX:Hid (MU (Ca s.data.toList) q=.er 230 (Ca s.data.toList)):=(by show _=_;simp[MU,hk,hst]);rw[HX.out];have K13:Hid (∀w,Ag Aa 158 #[.string s] w fun e w'=>e=.returned (.int .i64 (Ca s.data.toList))/\w'=w):=fun w=>UL s w (by omega)
 have hlb:=QT s.data.toList;have hsl:s.data.toList.length=s.size:=by simp
 rw[hsl]at hlb;generalize Ca s.data.toList=L at*;have hlt:=h.bx.lt;have c0:(w.alloc (.cells #[.int .i64 0,.int .i64 0] 50)).cell? ⟨R,0,none⟩=some (.string s):=((BS w _).cell (p:=⟨R,0,none⟩) hlt).trans h.bx.c0;have hB:B<=w.heap.size:=by have:=h.br;omega
 have HF:Hid (∀o1 o2,Fr B w0 ((w.alloc o1).alloc o2)):=fun o1 o2=>(h.bl.go (BS w _) hB).go (BS _ _) (Aj hB (BS w _).size)
 have K46:=Ac (fun w=>Zf k w);clear h hP HX;obtain rfl|rfl|rfl:=hst
 focus
  go_enter FS,Fi;go_wp2_with fail;refine(K13.out _).mono ?_
 rotate_left
 focus
  go_enter FS,Fi;go_wp2_with fail;refine(K13.out _).mono ?_;rintro e w1 ⟨rfl,rfl⟩;go_wp2_with fail;refine(K46.out _).mono ?_
 rotate_left
 focus
  go_enter FS,Fi;go_wp2_with fail;refine(K13.out _).mono ?_;rintro e w1 ⟨rfl,rfl⟩;go_wp2_with fail;refine(K46.out _).mono ?_
 rotate_left
 all_goals
  rintro e w1 ⟨rfl,rfl⟩;go_wp2_with fail;refine An (v:=.agg #[.int .i64 230,.int .i64 L]) ?_ rfl ⟨230,L,rfl,rfl,rfl,HF.out _ _⟩;simp[AJ,Gk,go_sem]
theorem bN(B R:Nat)(w0:Fx)(w:Ab)(s:ByteArray)(q:Cf)(AB:Nat)(wv ev:Ao)(wS:Ab)(k:Nat)(h:RSZ B R w0 w s q AB wv ev wS)(hP:∀p∈w0.P,p.1<w.heap.size)(hs:s.size<=1000000)(hk:q.st=k)(hst:k=0∨k=5∨k=6)(he:q.es.length<=1000000) :
  Ag Aa 123 #[.pointer (some ⟨R,0,none⟩),.int .u8 k] w (FnP B R w0 s (MU (Ca s.data.toList) q)):=by
 have HX:Hid (MU (Ca s.data.toList) q=if 0<q.op then .er 230 (Ca s.data.toList) else .ok (BP q).es):=(by
  show _=_;have e1:¬ (q.st=3∨q.st=2∨q.st=4):=by omega
  have e2:¬ q.st=1:=by omega
  simp only[MU,if_neg e1,if_neg e2])
 rw[HX.out];have K13:Hid (∀w,Ag Aa 158 #[.string s] w fun e w'=>e=.returned (.int .i64 (Ca s.data.toList))/\w'=w):=fun w=>UL s w (by omega)
 have hlb:=QT s.data.toList;have hsl:s.data.toList.length=s.size:=by simp
 rw[hsl]at hlb;generalize Ca s.data.toList=L at*;have hlt:=h.bx.lt;have c0:(w.alloc (.cells #[.int .i64 0,.int .i64 0] 50)).cell? ⟨R,0,none⟩=some (.string s):=((BS w _).cell (p:=⟨R,0,none⟩) hlt).trans h.bx.c0;have hB:B<=w.heap.size:=by have:=h.br;omega
 have HF:Hid (∀o1 o2,Fr B w0 ((w.alloc o1).alloc o2)):=fun o1 o2=>(h.bl.go (BS w _) hB).go (BS _ _) (Aj hB (BS w _).size)
 have K46:=Ac (fun w=>Zf k w);have HJ:Hid (∀p∈w0.P,p.1≠w.heap.size):=fun p hp e=>by have:=hP p hp;omega
 have HA:=Ac (h.go (BS w (.cells #[.int .i64 0,.int .i64 0] 50)));have HA2:=Ac (HA.out.go (BS _ (.cells #[.int .i64 230,.int .i64 L] 50)));have hJ0:((w.alloc (.cells #[.int .i64 0,.int .i64 0] 50)).alloc (.cells #[.int .i64 230,.int .i64 L] 50)).heap[w.heap.size]?=some (.cells #[.int .i64 0,.int .i64 0] 50 (0,0)):=by
  rw[(BS (w.alloc (.cells #[.int .i64 0,.int .i64 0] 50)) _).block w.heap.size (by simp)];exact Au w _
 have hJ9:((w.alloc (.cells #[.int .i64 0,.int .i64 0] 50)).alloc (.cells #[.int .i64 230,.int .i64 L] 50)).heap[w.heap.size+1]?=some (.cells #[.int .i64 230,.int .i64 L] 50 (0,0)):=by
  have:=Au (w.alloc (.cells #[.int .i64 0,.int .i64 0] 50)) (.cells #[.int .i64 230,.int .i64 L] 50);simpa using this
 have HB:=Ac ((HA2.out.put (w.heap.size+1) 230 L hJ9).put w.heap.size 0 0 hJ0);clear hJ9;have hJ1:=Dh hJ0;clear hJ0;have c2:=HA2.out.bx.c2;have KC:=Ac (Uv B R ((w0.put (w.heap.size+1) 230 L).put w.heap.size 0 0) _ s q AB wv ev wS HB.out he);have n3:¬ (k:Int)=3:=by omega
 have n3b:((k:Int) == 3)=false:=by simpa using n3
 have n1:¬ (k:Int)=1:=by omega
 have n1b:((k:Int) == 1)=false:=by simpa using n1
 have hd:decide (k=2∨k=4)=false:=by simp;omega
 rw[hd]at K46;by_cases hop:0<q.op
 ·rw[if_pos hop];have hop':(0:Int)<(q.op:Int):=by omega
  clear h hP HX hst hk hd HA HA2 HB KC hop;go_enter FS,Fi;go_wp2_with fail;refine(K13.out _).mono ?_;rintro e w1 ⟨rfl,rfl⟩;go_wp2_with fail;refine(K46.out _).mono ?_;rintro e w1 ⟨rfl,rfl⟩;go_wp2_with fail;refine An (v:=.agg #[.int .i64 230,.int .i64 L]) ?_ rfl ⟨230,L,rfl,rfl,rfl,HF.out _ _⟩;simp[AJ,Gk,go_sem]
 ·rw[if_neg hop];have hop':¬ (0:Int)<(q.op:Int):=by omega
  clear h hP HX hst hk hd HA HA2 HB hop;go_enter FS,Fi;go_wp2_with fail;refine(K13.out _).mono ?_;rintro e w1 ⟨rfl,rfl⟩;go_wp2_with fail;refine(K46.out _).mono ?_;rintro e w1 ⟨rfl,rfl⟩;go_wp2_with fail;refine KC.out.mono ?_;rintro e w2 ⟨rfl,H2⟩;obtain⟨wv',ev',hrc⟩:=H2.out;have HRC:=Ac hrc;clear hrc H2;have HC2:=Ac HRC.out.bl.cell;have k0:=Dh HC2.out;have k1:=Ds HC2.out;have kf:=Ia HC2.out;have kl:=Gd HC2.out;have z0:=Dh (Cp HC2.out (.int .i64 0) (.int .i64 0));have z1:=Ds (Cp HC2.out (.int .i64 0) (.int .i64 0));go_wp2_with fail;refine An (v:=.agg #[.int .i64 0,.int .i64 0]) ?_ rfl ⟨0,0,rfl,rfl,rfl,_,_,_,_,rfl,(HRC.out.pop.pop).res HC2.out hB HJ.out _ _⟩;simp[AJ,Gk,go_sem,k0,k1,z0,z1,kl]
theorem WM(B R:Nat)(w0:Fx)(w:Ab)(s:ByteArray)(q:Cf)(AB:Nat)(wv ev:Ao)(wS:Ab)(k:Nat)(h:RSZ B R w0 w s q AB wv ev wS)(hP:∀p∈w0.P,p.1<w.heap.size)(hs:s.size<=1000000)(hk:q.st=k)(hst:k=1)(hc:LF s q AB s.size)(hw:q.ws.length<=64)(he:q.es.length<=1000000) :
  Ag Aa 123 #[.pointer (some ⟨R,0,none⟩),.int .u8 k] w (FnP B R w0 s (MU (Ca s.data.toList) q)):=by
 have HX:Hid (MU (Ca s.data.toList) q=match EV q false with|none=>.er 3 q.line|some q'=>if 0<q'.op then .er 230 (Ca s.data.toList) else .ok (BP q').es):=(by
  show _=_;have e1:¬ (q.st=3∨q.st=2∨q.st=4):=by omega
  have e2:q.st=1:=by omega
  simp only[MU,if_neg e1,if_pos e2];rfl)
 rw[HX.out];have K13:Hid (∀w,Ag Aa 158 #[.string s] w fun e w'=>e=.returned (.int .i64 (Ca s.data.toList))/\w'=w):=fun w=>UL s w (by omega)
 have hlb:=QT s.data.toList;have hsl:s.data.toList.length=s.size:=by simp
 rw[hsl]at hlb;generalize Ca s.data.toList=L at*;have hlt:=h.bx.lt;have c0:(w.alloc (.cells #[.int .i64 0,.int .i64 0] 50)).cell? ⟨R,0,none⟩=some (.string s):=((BS w _).cell (p:=⟨R,0,none⟩) hlt).trans h.bx.c0;have hB:B<=w.heap.size:=by have:=h.br;omega
 have HF:Hid (∀o1 o2,Fr B w0 ((w.alloc o1).alloc o2)):=fun o1 o2=>(h.bl.go (BS w _) hB).go (BS _ _) (Aj hB (BS w _).size)
 have K46:=Ac (fun w=>Zf 1 w);have HJ:Hid (∀p∈w0.P,p.1≠w.heap.size):=fun p hp e=>by have:=hP p hp;omega
 have HA:=Ac (h.go (BS w (.cells #[.int .i64 0,.int .i64 0] 50)));have HA2:=Ac (HA.out.go (BS _ (.cells #[.int .i64 230,.int .i64 L] 50)));have hJ0:((w.alloc (.cells #[.int .i64 0,.int .i64 0] 50)).alloc (.cells #[.int .i64 230,.int .i64 L] 50)).heap[w.heap.size]?=some (.cells #[.int .i64 0,.int .i64 0] 50 (0,0)):=by
  rw[(BS (w.alloc (.cells #[.int .i64 0,.int .i64 0] 50)) _).block w.heap.size (by simp)];exact Au w _
 have hJ9:((w.alloc (.cells #[.int .i64 0,.int .i64 0] 50)).alloc (.cells #[.int .i64 230,.int .i64 L] 50)).heap[w.heap.size+1]?=some (.cells #[.int .i64 230,.int .i64 L] 50 (0,0)):=by
  have:=Au (w.alloc (.cells #[.int .i64 0,.int .i64 0] 50)) (.cells #[.int .i64 230,.int .i64 L] 50);simpa using this
 have HB:=Ac ((HA2.out.put (w.heap.size+1) 230 L hJ9).put w.heap.size 0 0 hJ0);clear hJ9;have hJ1:=Dh hJ0;clear hJ0;subst hst;have c0b:=HA2.out.bx.c0;have KK:=Ac (XK B R ((w0.put (w.heap.size+1) 230 L).put w.heap.size 0 0) _ s q AB wv ev wS s.size false HB.out hw hc hs);have hd:decide (1=2∨1=4)=false:=by decide
 rw[hd]at K46;cases hkf:EV q false with
 |none=>
  simp only;have HKK:=Ac hkf;clear h hP HX hk hd HA HA2 HB hkf hc;go_enter FS,Fi;go_wp2_with fail;refine(K13.out _).mono ?_;rintro e w1 ⟨rfl,rfl⟩;go_wp2_with fail;refine(K46.out _).mono ?_;rintro e w1 ⟨rfl,rfl⟩;go_wp2_with fail;refine KK.out.mono ?_;rintro e w2 ⟨er,rfl,H2⟩;obtain⟨k1,rfl,wv2,ev2,wS2,k3⟩|⟨rfl,q2,k1,wv2,ev2,wS2,k3⟩:=H2.out
  ·have HRS:=Ac k3;clear H2 k1 k3;have c1:=HRS.out.bx.c1;have HC2:=Ac HRS.out.bl.cell;have k0:=Dh HC2.out;have k1:=Ds HC2.out;have kf:=Ia HC2.out;have kl:=Gd HC2.out;have z0:=Dh (Cp HC2.out (.int .i64 3) (.int .i64 q.line));have z1:=Ds (Cp HC2.out (.int .i64 3) (.int .i64 q.line));go_wp2_with fail;refine An (v:=.agg #[.int .i64 3,.int .i64 q.line]) ?_ rfl ⟨3,q.line,rfl,rfl,rfl,HRS.out.bl.pop.pop.res hB HJ.out _ _⟩;simp[AJ,Gk,go_sem,k0,k1,z0,z1,kl]
  ·exfalso
   rw[HKK.out]at k1;cases k1
 |some q'=>
  simp only;have HKK:=Ac hkf;have hes:=(Ow hkf).1;have hop0:=(Ow hkf).2.1;have KC:Hid (∀W wv ev wS,RSZ B R ((w0.put (w.heap.size+1) 230 L).put w.heap.size 0 0) W s q' AB wv ev wS->Ag Aa 157 #[.pointer (some ⟨R,0,none⟩)] W fun e w'=>e=.returned (.tuple #[])/\Hid (∃wv' ev',RC B R ((w0.put (w.heap.size+1) 230 L).put w.heap.size 0 0) w' s (BP q') AB wv' ev')):=fun W wv ev wS hW=>Uv B R _ W s q' AB wv ev wS hW (by rw[hes];exact he)
  clear h hP HX hk hd HA HA2 HB hkf hc hes hop0;by_cases hop:0<q'.op
  ·rw[if_pos hop];have hop':(0:Int)<(q'.op:Int):=by omega
   clear hop;go_enter FS,Fi;go_wp2_with fail;refine(K13.out _).mono ?_;rintro e w1 ⟨rfl,rfl⟩;go_wp2_with fail;refine(K46.out _).mono ?_;rintro e w1 ⟨rfl,rfl⟩;go_wp2_with fail;refine KK.out.mono ?_;rintro e w2 ⟨er,rfl,H2⟩;obtain⟨k1,rfl,wv2,ev2,wS2,k3⟩|⟨rfl,q2,k1,wv2,ev2,wS2,k3⟩:=H2.out
   ·exfalso
    rw[HKK.out]at k1;cases k1
   ·rw[HKK.out]at k1;cases k1;have HRS:=Ac k3;clear H2 k3;have c2:=HRS.out.bx.c2;have HC2:=Ac HRS.out.bl.cell;have HC3:=Ac HRS.out.bl.pop.cell;have k0:=Dh HC2.out;have k1:=Ds HC2.out;have l0:=Dh HC3.out;have l1:=Ds HC3.out;have kf:=Ia HC2.out;have kl:=Gd HC2.out;have z0:=Dh (Cp HC2.out (.int .i64 230) (.int .i64 L));have z1:=Ds (Cp HC2.out (.int .i64 230) (.int .i64 L));go_wp2_with fail;refine An (v:=.agg #[.int .i64 230,.int .i64 L]) ?_ rfl ⟨230,L,rfl,rfl,rfl,HRS.out.bl.pop.pop.res hB HJ.out _ _⟩;simp[AJ,Gk,go_sem,k0,k1,z0,z1,kl]
  ·rw[if_neg hop];have hop':¬ (0:Int)<(q'.op:Int):=by omega
   clear hop;go_enter FS,Fi;go_wp2_with fail;refine(K13.out _).mono ?_;rintro e w1 ⟨rfl,rfl⟩;go_wp2_with fail;refine(K46.out _).mono ?_;rintro e w1 ⟨rfl,rfl⟩;go_wp2_with fail;refine KK.out.mono ?_;rintro e w2 ⟨er,rfl,H2⟩;obtain⟨k1,rfl,wv2,ev2,wS2,k3⟩|⟨rfl,q2,k1,wv2,ev2,wS2,k3⟩:=H2.out
   ·exfalso
    rw[HKK.out]at k1;cases k1
   ·rw[HKK.out]at k1;cases k1;have HRS:=Ac k3;clear H2 k3;have c2:=HRS.out.bx.c2;go_wp2_with fail;refine(KC.out _ _ _ _ HRS.out).mono ?_;rintro e w3 ⟨rfl,H3⟩;obtain⟨wv',ev',hrc⟩:=H3.out;have HRC:=Ac hrc;clear hrc H3;have HC2:=Ac HRC.out.bl.cell;have k0:=Dh HC2.out;have k1:=Ds HC2.out;have kf:=Ia HC2.out;have kl:=Gd HC2.out;have z0:=Dh (Cp HC2.out (.int .i64 0) (.int .i64 0));have z1:=Ds (Cp HC2.out (.int .i64 0) (.int .i64 0));go_wp2_with fail;refine An (v:=.agg #[.int .i64 0,.int .i64 0]) ?_ rfl ⟨0,0,rfl,rfl,rfl,_,_,_,_,rfl,(HRC.out.pop.pop).res HC2.out hB HJ.out _ _⟩;simp[AJ,Gk,go_sem,k0,k1,z0,z1,kl]
end Go.Proofs.YtoppdmlmhigogaaGreatDoor
