/- Texts laid together, in parts: Ly Lx Bk Np Nxa Nxf Nxg Nxj Dsp Dbk Xb Nxi Dm Lg Ha Hb Hc Hd He Nsw. -/
import Derived.Test.YtoppdmlmhigogaaGreatDoorWsa
import Derived.Lib.SmallJoins
import Derived.Lib.AppendIntMem
import Derived.Lib.AtoiAllMem
import Derived.Lib.ConvBytes
import Derived.Lib.ParseIntBMem
import Derived.Lib.Hide
import Derived.Laws.Strings3
import Derived.Laws.Closers25
import Derived.Laws.Closers25b
import Derived.BigQuiet
import Derived.Deep.QuietTactic
import Derived.Lib.AppendZerosOnto
import Derived.Lib.AppendStr
import Derived.Deep.RegionHeld3
import Derived.WalkSpells
import Derived.WalkKit
import Derived.ProofKit
import Derived.OpenShut
import Derived.ShutString
import Derived.ChangeOld
import Derived.Below
import Derived.JoinedCond
import Derived.Deep.Strs
import Derived.Deep.Slices
import Derived.Deep.CutBlock
import Derived.Lib.Bytealg
set_option maxRecDepth 100000
set_option maxHeartbeats 8000000
set_option linter.unusedVariables false
set_option linter.unusedSimpArgs false
namespace Go.Proofs.YtoppdmlmhigogaaGreatDoor
open Go.ChangeShapes Go.WideShapes Go.ChangeAt Go.RowKit
open Go.ChangeShapes Go.WideShapes Go.ChangeAt Go.RowKit Go.Sort
def KOk(s:ByteArray)(ps:Own4):Prop:=s.size<4294967281/\(∀(j:Nat) b,s.data.toList[j]?=some b->b.toNat<128)/\Lib.fields s.data.toList=flatC ps/\ps.length<=1000/\∀p∈ps,p.2<65536
theorem fields_any(s:ByteArray)(ps:Own4)(w:World)(hK:KOk s ps)(hL:LayT w) :
  Calls Tryz.prog 155 #[.string s] w fun e w'=>e=.returned (.slice (some ⟨w.heap.size,0,none⟩) (2*ps.length) (2*ps.length))/\
   Hid (Below w.heap.size w w'/\∀j p,ps[j]?=some p->w'.cell? ⟨w.heap.size,2*j,none⟩=some (.string ⟨p.1.toArray⟩)/\w'.cell? ⟨w.heap.size,2*j+1,none⟩=some (.string ⟨(Lib.decDigits p.2).toArray⟩)):=by
 refine (Tryz.strings_Fields s w hK.1 hK.2.1 hL.2.1).mono ?_
 rintro e w' ⟨rfl,rfl⟩
 rw[hK.2.2.1,flatC_len]
 refine ⟨rfl,(Below.refl _ _).alloc (Nat.le_refl _) _,fun j p hp=>?_⟩
 obtain ⟨h1,h2⟩:=flatC_at ps j p hp
 constructor
 ·unfold World.cell?;rw[heap_alloc_new];simp[h1]
 ·unfold World.cell?;rw[heap_alloc_new];simp[h2]
theorem tz64(w:World)(hL:LayT w):Calls Tryz.prog 202 #[.int .u64 16] w fun e w'=>e=.returned (.int .i64 4)/\w'=w:=by
 have hc:=hL.2.2.2
 have hA:bits .and .u64 16 (IntKind.u64.wrap (-16))=16:=by decide +kernel
 have hW:IntKind.u64.wrap 4573923408821661840=4573923408821661840:=by decide +kernel
 clear hL
 go_enter Tryz.func202,Tryz.ntmps202
 go_wp2
 go_ret
 exact ⟨rfl,rfl⟩
theorem tz16(w:World)(hL:LayT w):Calls Tryz.prog 181 #[.int .u64 16] w fun e w'=>e=.returned (.int .i64 4)/\w'=w:=by
 have K:Hid (LayT w):=hL
 clear hL
 go_enter Tryz.func181,Tryz.ntmps181
 go_wp2_with fail
 refine (tz64 w K.out).mono ?_
 rintro e w' ⟨rfl,rfl⟩
 go_wp2_with fail
 go_ret
 exact ⟨rfl,rfl⟩
theorem pow16(w:World):Calls Tryz.prog 180 #[.int .i64 16] w fun e w'=>e=.returned (.bool true)/\w'=w:=by
 go_enter Tryz.func180,Tryz.ntmps180
 go_wp2
 go_ret
 exact ⟨rfl,rfl⟩
def fbx(ds:List Int):List Value:=List.replicate (65 - ds.length) (.int .u8 0)++ds.map (Value.int .u8)
theorem fbx_len(ds:List Int)(h:ds.length<=65):(fbx ds).length=65:=by simp[fbx];omega
theorem fbx_set(ds:List Int)(z:Int)(h:ds.length<65):(fbx ds).set (64 - ds.length) (.int .u8 z)=fbx (z::ds):=by
 unfold fbx
 rw[List.set_append_left _ _ (by simp;omega)]
 rw[show 65 - ds.length=(64 - ds.length)+1 by omega,List.replicate_succ',List.set_append_right _ _ (by simp)]
 simp[show 65 - (ds.length+1)=64 - ds.length by omega]
theorem fbx_at(ds:List Int)(j:Nat)(h:ds.length<=65)(hj:j<ds.length):(fbx ds)[65 - ds.length+j]?=some (.int .u8 (ds.getD j 0)):=by
 unfold fbx
 rw[List.getElem?_append_right (by simp),List.length_replicate,show 65 - ds.length+j - (65 - ds.length)=j by omega,List.getElem?_map,List.getD_eq_getElem?_getD,List.getElem?_eq_getElem hj]
 rfl
theorem fbx_new(w:World):BlkV (w.alloc (.cells Tryz.zeroCells215 215)) w.heap.size 215 (fbx []):=by
 have e:Tryz.zeroCells215=(fbx []).toArray:=by kernel_rfl
 rw[e]
 exact heap_alloc_new _ _
theorem xd_get(d:Nat)(h:d<({ data:=#[48,49,50,51,52,53,54,55,56,57,97,98,99,100,101,102,103,104,105,106,107,108,109,110,111,112,113,114,115,116,117,118,119,120,121,122] }:ByteArray).size)(h1:d<16):((({ data:=#[48,49,50,51,52,53,54,55,56,57,97,98,99,100,101,102,103,104,105,106,107,108,109,110,111,112,113,114,115,116,117,118,119,120,121,122] }:ByteArray)[d]'h).toNat:Int)=xhd d:=by
 rcases (by omega:d=0∨d=1∨d=2∨d=3∨d=4∨d=5∨d=6∨d=7∨d=8∨d=9∨d=10∨d=11∨d=12∨d=13∨d=14∨d=15) with rfl|rfl|rfl|rfl|rfl|rfl|rfl|rfl|rfl|rfl|rfl|rfl|rfl|rfl|rfl|rfl <;> kernel_rfl
theorem sl65(g k:Nat)(hk:k<=64)(W:World):(Instr.sliceAt 215 (.pointer (some ⟨g,0,none⟩)) (some (.int .i64 (k:Int))) none none).run Tryz.prog W=.ok (.slice (some ⟨g,k,none⟩) (65 - k) (65 - k)) W:=by
 have hal:Tryz.prog.arrayLen 215=65:=by kernel_rfl
 rw[run_sliceAt_array_l W 215 ⟨g,0,none⟩ (by simp[Program.arrayLen,Program.elem,Tryz.underlying215]) .i64 (k:Int) (by omega) (by rw[hal];omega)]
 go_simp
 omega
theorem p16(n v:Nat)(hv:1<=v)(h:v*16 ^ n<65536):n<4:=by
 by_cases hn:n<4
 ·exact hn
 ·have h1:(16:Nat) ^ 4<=16 ^ n:=Nat.pow_le_pow_right (by omega) (by omega)
  have h2:1*16 ^ n<=v*16 ^ n:=Nat.mul_le_mul_right _ hv
  omega
theorem and15u(u:Nat)(h:u<65536):bits .and .u64 (u:Int) 15=((u % 16:Nat):Int):=by
 have:=u64_and (u:Int) 15 (by omega) (by omega) (by omega) (by omega)
 rw[this]
 simp
 have:u &&& 15=u % 16:=Nat.and_two_pow_sub_one_eq_mod u 4
 rw[this];omega
theorem bits16(u:Nat)(hu:u<65536)(w:World)(hL:LayT w) :
  Calls Tryz.prog 150 #[.slice none 0 0,.int .u64 u,.int .i64 16,.bool false,.bool false] w fun e w'=>e=.returned (.tuple #[.slice none 0 0,.string (lb (xhex u))])/\Hid (Below w.heap.size w w'):=by
 have HL:Hid (LayT w):=hL
 clear hL
 have HU:Hid (u<65536):=hu
 go_enter Tryz.func150,Tryz.ntmps150
 go_wp2_with fail
 have H0:=Lib.hid (fbx_new w)
 have HB0:Hid (Below w.heap.size w (w.alloc (.cells Tryz.zeroCells215 215))):=(Below.refl _ _).alloc (Nat.le_refl _) _
 generalize (w.alloc (.cells Tryz.zeroCells215 215))=wa at*
 refine (pow16 _).mono ?_
 rintro e w' ⟨rfl,hw⟩
 subst w'
 go_wp2_with fail
 refine (tz16 _ (HL.out.below HB0.out)).mono ?_
 rintro e w' ⟨rfl,hw⟩
 subst w'
 go_wp2_with fail
 go_loopw [1,13] (fun x y wr=>∃(v k:Nat) (ds:List Int),x=.int .u64 v/\y=.int .i64 ((k:Int)+1)/\k+ds.length=64/\v<65536/\Hid (xhex u=xhex v++ds/\(∀z∈ds,0<=z/\z<=255))/\v*16 ^ ds.length<65536/\Hid (BlkV wr w.heap.size 215 (fbx ds)/\Below w.heap.size w wr)) (fun x _ _=>(intOf x).toNat)
 case atStart=>exact ⟨u,64,[],rfl,rfl,rfl,HU.out,⟨by simp,by simp⟩,by simpa using HU.out,H0.out,HB0.out⟩
 case round=>
  obtain ⟨v,k,ds,rfl,rfl,hkd,hv,HX,hds,HW⟩:=hrel
  clear H0 HB0
  have hk:k<(fbx ds).length:=by rw[fbx_len _ (by omega)];omega
  have hc:=HW.out.1.cell k hk
  have hfz:=HW.out.1.frozen k
  generalize (fbx ds)[k]=c0 at hc
  by_cases h16:16<=v
  ·have h16':(16:Int)<=(v:Int):=by omega
   have hA:=and15u v hv
   have hl4:=p16 ds.length v (by omega) hds
   have HZ:Hid (0<=xhd (v % 16)/\xhd (v % 16)<=255):=by show _/\_;unfold xhd;split <;> omega
   have HD:Hid (xhex v=xhex (v / 16)++[xhd (v % 16)]):=by show _=_;rw[xhex,dif_neg (by omega)]
   have hk64:(k:Int)<65:=by omega
   go_wp2_with fail
   rw[xd_get (v % 16) (by show _<36;omega) (by omega)]
   generalize xhd (v % 16)=z at*
   have hsh:16 ^ (ds.length+1)=16*16 ^ ds.length:=by rw[Nat.pow_succ,Nat.mul_comm]
   refine ⟨⟨v / 16,k - 1,z::ds,by go_num,by congr 1;omega,by simp;omega,by omega,⟨?_,?_⟩,?_,?_,?_⟩,by simp[intOf];omega⟩
   ·rw[HX.out.1,HD.out];simp
   ·intro y hy
    rcases List.mem_cons.1 hy with rfl|hy
    ·exact HZ.out
    ·exact HX.out.2 y hy
   ·rw[List.length_cons,hsh,<- Nat.mul_assoc]
    have:v / 16*16<=v:=Nat.div_mul_le_self v 16
    exact Nat.lt_of_le_of_lt (Nat.mul_le_mul_right _ this) hds
   ·have:=HW.out.1.stored k (.int .u8 z)
    rw[show k=64 - ds.length by omega,fbx_set ds z (by omega)] at this
    rw[show k=64 - ds.length by omega]
    exact this
   ·exact HW.out.2.setCell (show w.heap.size<=(⟨w.heap.size,k,none⟩:Addr).block from Nat.le_refl _) _
  ·have h16':¬ (16:Int)<=(v:Int):=by omega
   have hk64:(k:Int)<65:=by omega
   have hsl:=sl65 w.heap.size k (by omega)
   have HZ:Hid (0<=xhd v/\xhd v<=255):=by show _/\_;unfold xhd;split <;> omega
   have HD:Hid (xhex v=[xhd v]):=by show _=_;rw[xhex,dif_pos (by omega)]
   have hzz:=xd_get v (by show _<36;omega) (by omega)
   generalize xhd v=z at*
   have hb2:BlkV (wr.setCell ⟨w.heap.size,k,none⟩ (.int .u8 z)) w.heap.size 215 (fbx (z::ds)):=by
    have:=HW.out.1.stored k (.int .u8 z)
    rw[show k=64 - ds.length by omega,fbx_set ds z (by omega)] at this
    rw[show k=64 - ds.length by omega]
    exact this
   have HL2:Hid (xhex u=z::ds/\∀y∈z::ds,0<=y/\y<=255):=by
    refine ⟨by rw[HX.out.1,HD.out];rfl,fun y hy=>?_⟩
    rcases List.mem_cons.1 hy with rfl|hy
    ·exact HZ.out
    ·exact HX.out.2 y hy
   have hcv:(convert 39 9 (.slice (some ⟨w.heap.size,k,none⟩) (65 - k) (65 - k))).run Tryz.prog (wr.setCell ⟨w.heap.size,k,none⟩ (.int .u8 z))=.ok (.string (lb (xhex u))) (wr.setCell ⟨w.heap.size,k,none⟩ (.int .u8 z)):=by
    have h:=run_convert_bytes_back (P:=Tryz.prog) (wr.setCell ⟨w.heap.size,k,none⟩ (.int .u8 z)) 39 9 5 ⟨w.heap.size,k,none⟩ (65 - k) (txt (z::ds)) Tryz.underlying39 Tryz.underlying5 Tryz.underlying9 (fun j hj=>by
     rw[txt_len] at hj
     rw[Lib.add_plain]
     have hjl:k+j<(fbx (z::ds)).length:=by rw[fbx_len _ (by simp;omega)];simp at hj;omega
     have h1:=hb2.cell (k+j) hjl
     have h2:=fbx_at (z::ds) j (by simp;omega) hj
     rw[show 65 - (z::ds).length+j=k+j by simp;omega,List.getElem?_eq_getElem hjl] at h2
     injection h2 with h2
     rw[h1,h2]
     have hm:(z::ds).getD j 0∈z::ds:=by rw[List.getD_eq_getElem?_getD,List.getElem?_eq_getElem hj];exact List.getElem_mem hj
     have hbd:=HL2.out.2 _ hm
     have e:(txt (z::ds))[j]'(by rw[txt_len];exact hj)=UInt8.ofNat ((z::ds).getD j 0).toNat:=by
      simp only[txt,List.getElem_map,List.getD_eq_getElem?_getD,List.getElem?_eq_getElem hj,Option.getD_some]
     rw[e]
     generalize (z::ds).getD j 0=y at hbd
     congr 2
     simp
     omega)
    rw[txt_len,show (z::ds).length=65 - k by simp;omega] at h
    rw[HL2.out.1]
    exact h
   have HCV:=Lib.hid hcv
   have HB9:Hid (Below w.heap.size w (wr.setCell ⟨w.heap.size,k,none⟩ (.int .u8 z))):=HW.out.2.setCell (show w.heap.size<=(⟨w.heap.size,k,none⟩:Addr).block from Nat.le_refl _) _
   clear hcv hb2
   have hcv:=HCV.out
   go_wp2_with fail
   go_ret2
   exact ⟨rfl,HB9.out⟩
theorem fmt16_in(u:Nat)(hu:u<65536)(w:World)(hL:LayT w) :
  Calls Tryz.prog 110 #[.int .u64 u,.int .i64 16] w fun e w'=>e=.returned (.string (lb (xhex u)))/\Hid (Below w.heap.size w w'):=by
 have K:Hid (LayT w):=hL
 clear hL
 go_enter Tryz.func110,Tryz.ntmps110
 go_wp2_with fail
 refine (bits16 u hu w K.out).mono ?_
 rintro e w' ⟨rfl,H⟩
 go_wp2_with fail
 go_ret
 exact ⟨rfl,H.out⟩
theorem fmt16(u:Nat)(hu:u<65536)(w:World)(hL:LayT w) :
  Calls Tryz.prog 78 #[.int .u64 u,.int .i64 16] w fun e w'=>e=.returned (.string (lb (xhex u)))/\Hid (Below w.heap.size w w'):=by
 have K:Hid (LayT w):=hL
 clear hL
 go_enter Tryz.func78,Tryz.ntmps78
 go_wp2_with fail
 refine (fmt16_in u hu w K.out).mono ?_
 rintro e w' ⟨rfl,H⟩
 go_wp2_with fail
 go_ret
 exact ⟨rfl,H.out⟩
end Go.Proofs.YtoppdmlmhigogaaGreatDoor
namespace Go.Proofs.YtoppdmlmhigogaaGreatDoor
open Go.ChangeShapes Go.WideShapes Go.ChangeAt Go.RowKit Go.Sort
def hx1(v:Nat):Option Nat:=if 97<=v/\v<=102 then some (v - 87) else none
end Go.Proofs.YtoppdmlmhigogaaGreatDoor
namespace Go.Proofs.YtoppdmlmhigogaaGreatDoor
open Go.ChangeShapes Go.WideShapes Go.ChangeAt Go.RowKit
theorem fr_tx1(c:Int)(h:0<=c/\c<=255)(r:List Int):fr (tx1 c++r)=(c,((tx1 c).length:Int)):=by
 unfold tx1
 by_cases hu:c<33∨126<c
 ·rw[if_pos hu]
  have hv:v3 (48+c / 100) (48+c / 10 % 10) (48+c % 10)=c:=by unfold v3;omega
  have d1:dgt (48+c / 100)=true:=(dgt_iff _).2 (by omega)
  have d2:dgt (48+c / 10 % 10)=true:=(dgt_iff _).2 (by omega)
  have d3:dgt (48+c % 10)=true:=(dgt_iff _).2 (by omega)
  have hd:decide (c<=255)=true:=by simp[h.2]
  simp[fr,esc,num3,vis,d1,d2,d3,hv,h.2]
 ·rw[if_neg hu]
  rcases spc_cases c with hs|⟨hs,e1,e2,_⟩
  ·rcases hs with rfl|rfl|rfl|rfl|rfl|rfl|rfl|rfl <;> simp[fr,esc,spc,vis,dgt]
  ·rw[hs]
   have hv:vis c=true:=(vis_iff c).2 (by omega)
   have e2':¬ c=92:=by simpa using e2
   simp[fr,hv,e2']
theorem head_tx1(c:Int)(h:0<=c/\c<=255)(r:List Int):(tx1 c++r).getD 0 0≠46:=by
 unfold tx1
 by_cases hu:c<33∨126<c
 ·rw[if_pos hu];simp
 ·rw[if_neg hu]
  rcases spc_cases c with hs|⟨hs,e1,e2,_⟩
  ·rcases hs with rfl|rfl|rfl|rfl|rfl|rfl|rfl|rfl <;> simp[spc]
  ·rw[hs];simpa using e1
theorem go_tx(l:List Int):∀(P out R:List Int),(∀z∈l,0<=z/\z<=255)->(R=[]∨∃r,R=46::r)->go (P++(tx l++R)) P.length out=some (out++l,P.length+(tx l).length):=by
 induction l with
 |nil=>
  intro P out R _ hR
  rw[go_stop]
  ·simp[tx]
  ·rcases hR with rfl|⟨r,rfl⟩
   ·simp[tx]
   ·simp[tx,List.getD_eq_getElem?_getD]
 |cons c l ih=>
  intro P out R hb hR
  have hc:=hb c (by simp)
  have e:tx (c::l)++R=tx1 c++(tx l++R):=by simp[tx]
  have hd:(P++(tx1 c++(tx l++R))).drop P.length=tx1 c++(tx l++R):=by simp
  have hf:=fr_tx1 c hc (tx l++R)
  have hlen:=tx1_len c
  rw[e,go_step]
  ·rw[hd,hf]
   have:=ih (P++tx1 c) (out++[c]) R (fun z hz=>hb z (by simp[hz])) hR
   simp only[Int.toNat_natCast]
   rw[List.append_assoc,List.length_append] at this
   rw[this]
   simp[tx]
   omega
  ·refine ⟨by simp only[List.length_append];omega,?_⟩
   have:=head_tx1 c hc (tx l++R)
   rw[<- hd,show ((P++(tx1 c++(tx l++R))).drop P.length).getD 0 0=(P++(tx1 c++(tx l++R))).getD P.length 0 by rw[List.getD_eq_getElem?_getD,List.getD_eq_getElem?_getD,List.getElem?_drop,Nat.add_zero]] at this
   exact this
  ·rw[hd,hf];simp only;omega
theorem pres_tx(l R:List Int)(hb:∀z∈l,0<=z/\z<=255)(hR:R=[]∨∃r,R=46::r)(hl:1<=l.length/\l.length<=63):pres (tx l++R)=(l,((tx l).length:Int),0):=by
 have:=go_tx l [] [] R hb hR
 simp only[List.nil_append,List.length_nil,Nat.zero_add] at this
 exact pres_ok this (by unfold chk;rw[if_pos hl])
theorem nums_cat(a b:ByteArray):nums (a++b)=nums a++nums b:=by
 simp[nums]
theorem nums_back(l:List Int)(h:∀z∈l,0<=z/\z<=255):nums ⟨(txt l).toArray⟩=l:=by
 unfold nums txt
 simp only[List.map_map]
 conv=>rhs;rw[<- List.map_id l]
 apply List.map_congr_left
 intro z hz
 have:=h z hz
 simp
 omega
theorem txt_back(s:ByteArray):(⟨(txt (nums s)).toArray⟩:ByteArray)=s:=by
 have:txt (nums s)=s.data.toList:=by
  unfold nums txt
  rw[List.map_map]
  conv=>rhs;rw[<- List.map_id s.data.toList]
  apply List.map_congr_left
  intro b _
  simp
 rw[this]
def flat(l:List ByteArray):List Int:=l.flatMap fun s=>tx (nums s)++[46]
theorem nums_tb(s:ByteArray):nums (tb s)=tx (nums s):=nums_back _ (tx_bd _ (nums_all s))
theorem nums_ntxt(l:List ByteArray):nums (ntxt l)=flat l:=by
 have:∀(l:List ByteArray) (acc:ByteArray),nums (l.foldl (fun acc s=>acc++tb s++⟨#[46]⟩) acc)=nums acc++flat l:=by
  intro l
  induction l with
  |nil=>intro acc;simp[flat]
  |cons s l ih=>
   intro acc
   rw[List.foldl_cons,ih,nums_cat,nums_cat,nums_tb]
   simp[flat]
   rfl
 have h:=this l ⟨#[]⟩
 rw[show nums ⟨#[]⟩=[] from rfl,List.nil_append] at h
 exact h
theorem chk_ok{n:Nat}(h:chk n=0):1<=n/\n<=63:=by
 unfold chk at h
 split at h
 ·assumption
 ·cases h
theorem lgo_flat:∀(ss:List ByteArray) (out:List ByteArray),ss≠[]->labsOk ss->lgo (flat ss) out=(out++ss,true,0)
 |[],_,h,_=>absurd rfl h
 |s::r,out,_,hok=>by
  have hs:=chk_ok (hok s (by simp))
  have hf:flat (s::r)=tx (nums s)++(46::flat r):=by simp[flat]
  have hp:=pres_tx (nums s) (46::flat r) (nums_all s) (.inr ⟨_,rfl⟩) (by rw[nums_len];exact hs)
  rw[<- hf] at hp
  have hd:(flat (s::r)).drop ((tx (nums s)).length+1)=flat r:=by
   rw[hf,List.drop_append,List.drop_eq_nil_of_le (by omega),Nat.add_sub_cancel_left];rfl
  rw[lgo,hp]
  have hlb:lb (nums s)=s:=txt_back s
  simp only[if_true,Int.toNat_natCast,hd,hlb]
  rw[if_neg (by rw[hf,List.length_append];simp;omega)]
  by_cases hr:r=[]
  ·subst hr
   rw[dif_pos (by simp[flat])]
  ·have hne:¬ (flat r).length=0:=by
    obtain ⟨x,r',rfl⟩:=List.exists_cons_of_ne_nil hr
    simp[flat]
   rw[dif_neg hne,lgo_flat r (out++[s]) hr (fun x hx=>hok x (by simp[hx]))]
   simp
theorem ba_list(s:ByteArray):(nums s)=s.toList.map fun b=>(b.toNat:Int):=by rw[ba_toList];rfl
theorem flat_two(ss:List ByteArray)(h:ss≠[])(hok:labsOk ss):2<=(flat ss).length:=by
 obtain ⟨s,r,rfl⟩:=List.exists_cons_of_ne_nil h
 have hs:=chk_ok (hok s (by simp))
 have hne:nums s≠[]:=fun e=>by have:=nums_len s;rw[e] at this;simp at this;omega
 obtain ⟨c,l,hcl⟩:=List.exists_cons_of_ne_nil hne
 have h1:=tx1_len c
 have:1<=(tx (nums s)).length:=by rw[hcl];simp only[tx,List.flatMap_cons,List.length_append];omega
 simp only[flat,List.flatMap_cons,List.length_append,List.length_cons,List.length_nil]
 omega
theorem ntxt_not(ss:List ByteArray)(h:ss≠[])(hok:labsOk ss)(x:UInt8):¬ (ntxt ss).toList=[x]:=by
 intro e
 have h1:=flat_two ss h hok
 have h2:=nums_ntxt ss
 rw[ba_list,e] at h2
 have:=congrArg List.length h2
 simp at this
 omega
theorem parse_text(ss:List ByteArray)(h:nck ss=0):nparse (ntext ss).1=(ss,0):=by
 have hok:=(nck_small h).2
 unfold ntext
 rw[if_pos h]
 by_cases h0:ss=[]
 ·subst h0
  rw[if_pos (show ([]:List ByteArray).length=0 from rfl)]
  unfold nparse
  rw[if_pos (by rw[ba_toList])]
 ·have hl:¬ ss.length=0:=fun e=>h0 (List.eq_nil_of_length_eq_zero e)
  rw[if_neg hl]
  unfold nparse
  rw[if_neg (ntxt_not ss h0 hok 46)]
  simp only[nums_ntxt,lgo_flat ss [] h0 hok,List.nil_append,if_true,h]
theorem rel_text(ss og:List ByteArray)(h:nck ss=0)(hg:nck og=0):nrel (ntext ss).1 og=(ss,0):=by
 have hok:=(nck_small h).2
 have hp:=parse_text ss h
 unfold nrel
 rw[if_pos hg]
 unfold ntext at hp ⊢
 rw[if_pos h] at hp ⊢
 by_cases h0:ss=[]
 ·subst h0
  rw[if_pos (show ([]:List ByteArray).length=0 from rfl)]
  simp only
  rw[if_neg (by rw[ba_toList];decide),if_pos (by rw[ba_toList])]
 ·have hl:¬ ss.length=0:=fun e=>h0 (List.eq_nil_of_length_eq_zero e)
  rw[if_neg hl] at hp ⊢
  simp only at hp ⊢
  rw[if_neg (ntxt_not ss h0 hok 64),if_neg (ntxt_not ss h0 hok 46)]
  simp only[nums_ntxt,lgo_flat ss [] h0 hok,if_true,hp]
theorem nck_of{ss:List ByteArray}(h1:nsz ss<=255)(h2:labsOk ss):nck ss=0:=by
 unfold nck
 rw[if_pos h2,if_neg (by omega)]
theorem nck_take(ss:List ByteArray)(k:Nat)(h:nck ss=0):nck (ss.take k)=0:=by
 have:=nck_small h
 exact nck_of (Nat.le_trans (nsz_le ss k) this.1) (fun s hs=>this.2 s (List.mem_of_mem_take hs))
theorem psize_eq(a:Option Addr)(len cap:Nat)(ss:List ByteArray)(w:World)(hr:RdT w a ss)(hl:ss.length=len)(hm:nsz ss<=1000000000000000) :
  Calls Tryz.prog 46 #[.slice a len cap] w fun e w'=>e=.returned (.int .i64 (nsz ss))/\w'=w:=by
 have HR:Hid (RdT w a ss):=hr
 have HL:Hid (ss.length=len):=hl
 have hln:len<=9223372036854775807:=by have:=nsz_len ss;omega
 obtain ⟨T,hT⟩:∃T,nsz ss=T:=⟨_,rfl⟩
 have HT:Hid (nsz ss=T):=hT
 rw[hT] at hm ⊢
 clear hr hl hT
 go_enter Tryz.func46,Tryz.ntmps46
 go_wp2_with fail
 go_loop [3,8] (fun n x=>∃k m:Nat,k<=len/\m<=T/\x=.int .i64 k/\n=.int .i64 m/\Hid (nsz (ss.take k)=m)) (fun _ x=>len - (intOf x).toNat)
 case atStart=>exact ⟨0,1,Nat.zero_le _,by rw[<- HT.out];exact nsz_le ss 0,rfl,rfl,rfl⟩
 case round=>
  obtain ⟨k,m,hk,hmT,rfl,rfl,HM⟩:=hrel
  by_cases hlt:k<len
  ·have hlt':(k:Int)<(len:Int):=by omega
   have hks:k<ss.length:=by rw[HL.out];exact hlt
   obtain ⟨b,o,rfl,hb,hc⟩:=HR.out.at k hks
   have hn:nsz (ss.take (k+1))=m+ss[k].size+1:=by rw[take_snocT ss k hks,nsz_snoc,HM.out]
   have hle:=nsz_le ss (k+1)
   rw[hn,HT.out] at hle
   have HN:Hid (nsz (ss.take (k+1))=m+ss[k].size+1):=hn
   clear hn
   generalize ss[k]=s at*
   go_wp2
   go_round
   case rel=>exact ⟨k+1,m+s.size+1,by omega,hle,by go_num,by go_num,HN⟩
   case measure=>simp[intOf];omega
  ·have hge:(len:Int)<=(k:Int):=by omega
   have e:m=T:=by rw[<- HM.out,<- HT.out,List.take_of_length_le (by rw[HL.out];omega)]
   subst e
   go_wp2
   go_ret
   exact ⟨rfl,rfl⟩
theorem pcheck_eq(a:Option Addr)(len cap:Nat)(ss:List ByteArray)(w:World)(hr:RdT w a ss)(hl:ss.length=len)(hm:nsz ss<=1000000000000000)(hlen:len<=9223372036854775807)(hz:∀s∈ss,s.size<=9223372036854775807) :
  Calls Tryz.prog 19 #[.slice a len cap] w fun e w'=>e=.returned (.int .i64 (nck ss))/\w'=w:=by
 have HR:Hid (RdT w a ss/\∀s∈ss,s.size<=9223372036854775807):=⟨hr,hz⟩
 have HL:Hid (ss.length=len):=hl
 have HS:Hid (∀W,RdT W a ss->Calls Tryz.prog 46 #[.slice a len cap] W fun e w'=>e=.returned (.int .i64 (nsz ss))/\w'=W):=fun W hW=>psize_eq a len cap ss W hW hl hm
 obtain ⟨T,hT⟩:∃T,nsz ss=T:=⟨_,rfl⟩
 have HT:Hid (nsz ss=T):=hT
 rw[hT] at hm HS
 clear hr hl hT hz
 go_enter Tryz.func19,Tryz.ntmps19
 go_wp2_with fail
 go_loopw [8] (fun x wr=>∃k:Nat,k<=len/\x=.int .i64 k/\wr=w/\Hid (∀i (h:i<ss.length),i<k->chk ss[i].size=0)) (fun x _=>len - (intOf x).toNat)
 case atStart=>exact ⟨0,Nat.zero_le _,rfl,rfl,fun i _ h=>absurd h (by omega)⟩
 case round=>
  obtain ⟨k,hk,rfl,rfl,HK⟩:=hrel
  by_cases hlt:k<len
  ·have hlt':(k:Int)<(len:Int):=by omega
   have hks:k<ss.length:=by rw[HL.out];exact hlt
   obtain ⟨b,o,rfl,hb,hc⟩:=HR.out.1.at k hks
   have HC:Hid (∀W,Calls Tryz.prog 45 #[.string ss[k]] W fun e w'=>e=.returned (.int .i64 (chk ss[k].size))/\w'=W):=fun W=>chk_any ss[k] W (HR.out.2 _ (List.getElem_mem hks))
   rcases chk_cases ss[k].size with hk0|hk4
   ·have HN:Hid (∀i (h:i<ss.length),i<k+1->chk ss[i].size=0):=by
     intro i h hi
     by_cases e:i=k
     ·subst e;exact hk0
     ·exact HK.out i h (by omega)
    rw[hk0] at HC
    clear hk0 HK
    generalize ss[k]=s at*
    go_wp2_with fail
    refine (HC.out _).mono ?_
    rintro e w1 ⟨rfl,rfl⟩
    go_wp2
    exact ⟨⟨k+1,by omega,by go_num,trivial,HN⟩,by simp[intOf];omega⟩
   ·have HE:Hid (nck ss=4):=by
     show nck ss=4
     unfold nck
     rw[if_neg (fun h=>by have:=h _ (List.getElem_mem hks);rw[hk4] at this;cases this)]
    rw[hk4] at HC
    clear hk4 HK
    generalize ss[k]=s at*
    go_wp2_with fail
    refine (HC.out _).mono ?_
    rintro e w1 ⟨rfl,rfl⟩
    go_wp2
    go_ret
    exact ⟨by rw[HE.out];rfl,rfl⟩
  ·have hge:(len:Int)<=(k:Int):=by omega
   have HO:Hid (labsOk ss):=by
    intro s hs
    obtain ⟨i,hi,rfl⟩:=List.getElem_of_mem hs
    exact HK.out i hi (by have:=HL.out;omega)
   by_cases hb:255<T
   ·have HE:Hid (nck ss=5):=by show nck ss=5;unfold nck;rw[if_pos HO.out,HT.out,if_pos hb]
    have hb':(255:Int)<(T:Int):=by omega
    clear HK HO
    go_wp2_with fail
    refine (HS.out _ HR.out.1).mono ?_
    rintro e w1 ⟨rfl,rfl⟩
    go_wp2
    go_ret
    exact ⟨by rw[HE.out];rfl,rfl⟩
   ·have HE:Hid (nck ss=0):=by show nck ss=0;unfold nck;rw[if_pos HO.out,HT.out,if_neg hb]
    have hb':¬ (255:Int)<(T:Int):=by omega
    clear HK HO
    go_wp2_with fail
    refine (HS.out _ HR.out.1).mono ?_
    rintro e w1 ⟨rfl,rfl⟩
    go_wp2
    go_ret
    exact ⟨by rw[HE.out];rfl,rfl⟩
theorem pm_check{a:Option Addr}{n:Nat}{ss:List ByteArray}{w:World}(c:Nat)(h:Nm w a n ss):Calls Tryz.prog 19 #[.slice a n c] w fun e w'=>e=.returned (.int .i64 (nck ss))/\w'=w:=
 pcheck_eq a n c ss w h.rd h.len (by have:=h.sz;omega) (by have:=h.n63;omega) (fun s hs=>by have:=h.mem s hs;omega)
theorem pcopy_eq(a:Option Addr)(cap len:Nat)(ss:List ByteArray)(M:Nat)(w:World)(hr:RdT w a ss)(hl:ss.length=len)(hM:∀s∈ss,s.size<=M)(hm:len<=8796093022000) :
  Calls Tryz.prog 53 #[.slice a len cap] w (CopyPost ss M w):=by
 have HR:Hid (RdT w a ss/\∀s∈ss,s.size<=M):=⟨hr,hM⟩
 have HL:Hid (ss.length=len):=hl
 clear hr hl hM
 go_enter Tryz.func53,Tryz.ntmps53
 go_wp2_with (at_builtin;refine wpList_append_T tyN _ rfl _ _ 23 9 Tryz.underlying23 rfl w.heap.size _ 0 [] M rfl (OwnT.nil _ _ _) a len cap ss rfl HR.out.1 HL.out HR.out.2 (by omega) (Nat.le_refl _) ?_;intro v' w' ys hO hT hG)
 go_ret
 refine ⟨v',ys,rfl,?_,?_,?_⟩
 ·have h:=hO.out
  rw[Nat.zero_add,<- HL.out] at h
  exact h
 ·have h:=hT.out
  rw[Nat.zero_add,<- HL.out] at h
  simpa using h
 ·exact (Below.refl _ _).grown hG (Nat.le_refl _) (by intro k hk;cases hk)
theorem pm_copy{a:Option Addr}{n:Nat}{ss:List ByteArray}{w:World}(c:Nat)(h:Nm w a n ss):Calls Tryz.prog 53 #[.slice a n c] w (CopyPost ss 1000000000000 w):=
 pcopy_eq a c n ss 1000000000000 w h.rd h.len h.mem (by have:=h.n63;omega)
def GrowPost(w:World)(e:Ending)(w':World):Prop:=∃v ys,e=.returned v/\Hid (OwnT w.heap.size w' v 0 ys 1000000000000/\Below w.heap.size w w')
theorem grow_any(N:Nat)(w:World)(hN:N<=8796093022000):Calls Tryz.prog 135 #[.slice none 0 0,.int .i64 N] w (GrowPost w):=by
 by_cases h0:N=0
 ·subst h0
  go_enter Tryz.func135,Tryz.ntmps135
  go_wp2
  go_ret
  exact ⟨_,[],rfl,OwnT.nil _ _ _,Below.refl _ _⟩
 ·obtain ⟨i,hi,hz0,hz1,hz2⟩:=info_parts tyN.hi
  have hr:∀ty,(Builtin.append_ #[23,3] ty #[.slice none 0 0,.int .i64 N]).run Tryz.prog w=.ok (.slice (some ⟨w.heap.size,0,none⟩) N (grownCap w N 0 9)) (w.drew.alloc (.cells (tv (List.replicate (grownCap w N 0 9) ⟨#[]⟩)).toArray 9)):=by
   intro ty
   have hge:=grownCap_ge w N 0 9
   have h:=Lib.run_append_grow_zeros w 23 3 ty 9 i (.string ⟨#[]⟩) .i64 .i64 Tryz.underlying23 (by kernel_rfl) hi hz0 none 0 0 [] (run_firstCells_none w.drew i.size 0 0 0) N (by omega) (by omega) (by omega) (by omega) (by rw[hz2];omega) (growslice_fits (by omega) (by rw[hz2];omega))
   simp only[Nat.zero_add] at h
   rw[h,zeros_eq1 _ tyN.hz,zeros_eq1 _ tyN.hz]
   have e:(([]:List Value).toArray++(List.replicate N (Value.string ⟨#[]⟩)).toArray++(List.replicate (grownCap w N 0 9 - N) (Value.string ⟨#[]⟩)).toArray)=(tv (List.replicate (grownCap w N 0 9) ⟨#[]⟩)).toArray:=by
    simp only[tv,List.map_replicate,List.append_toArray,List.nil_append,List.replicate_append_replicate]
    congr 2
    omega
   rw[e]
  have hG1:=grownCap_ge w N 0 9
  have hG2:=grownCap_le_maxLen w N 0 9 (by unfold maxLen;omega)
  generalize grownCap w N 0 9=G at*
  have HP:Hid (OwnT w.heap.size (w.drew.alloc (.cells (tv (List.replicate G ⟨#[]⟩)).toArray 9)) (.slice (some ⟨w.heap.size,0,none⟩) 0 G) 0 (List.replicate G ⟨#[]⟩) 1000000000000/\Below w.heap.size w (w.drew.alloc (.cells (tv (List.replicate G ⟨#[]⟩)).toArray 9))):=by
   refine ⟨⟨.inr ⟨w.heap.size,by simp[tv],Nat.le_refl _,heap_alloc_new w.drew _,Nat.zero_le _,by simpa [tv] using hG2⟩,?_⟩,(Below.refl _ _).drew.alloc (Nat.le_refl _) _⟩
   intro s hs
   rw[List.eq_of_mem_replicate hs]
   exact Nat.zero_le _
  unfold maxLen at hG2
  have hn:¬ (N:Int)<0:=by omega
  have hp:(0:Int)<(N:Int):=by omega
  generalize w.drew.alloc (.cells (tv (List.replicate G ⟨#[]⟩)).toArray 9)=W2 at*
  clear hi hz0 hz1 hz2
  have HR:Hid (∀ty,(Builtin.append_ #[23,3] ty #[.slice none 0 0,.int .i64 N]).run Tryz.prog w=.ok (.slice (some ⟨w.heap.size,0,none⟩) N G) W2):=hr
  clear hr
  go_enter Tryz.func135,Tryz.ntmps135
  go_wp2_with (at_builtin;refine Lib.wpList_append_run _ rfl _ _ _ _ rfl _ _ rfl rfl _ _ (HR.out _) ?_)
  go_ret
  exact ⟨_,_,rfl,HP⟩
theorem concat_any(g:Nat)(a b:Option Addr)(n m c d:Nat)(ss ts:List ByteArray)(w:World)(hg:g<w.heap.size)(c0:w.cell? ⟨g,0,none⟩=some (.slice a n c))(c1:w.cell? ⟨g,1,none⟩=some (.slice b m d))(h:Nm w a n ss)(h':Nm w b m ts) :
  Calls Tryz.prog 92 #[.slice (some ⟨g,0,none⟩) 2 2] w (CopyPost (ss++ts) 1000000000000 w):=by
 have HN:Hid (Nm w a n ss/\Nm w b m ts):=⟨h,h'⟩
 have HL:Hid (ss.length=n/\ts.length=m):=⟨h.len,h'.len⟩
 have hn:=h.n63
 have hm:=h'.n63
 clear h h'
 go_enter Tryz.func92,Tryz.ntmps92
 go_wp2_with fail
 go_loopw [3,11] (fun z x wr=>∃k q:Nat,z=.int .i64 q/\x=.int .i64 k/\wr=w/\Hid ((k=0/\q=0)∨(k=1/\q=n)∨(k=2/\q=n+m))) (fun _ x _=>2 - (intOf x).toNat)
 case atStart=>exact ⟨0,0,rfl,rfl,rfl,.inl ⟨rfl,rfl⟩⟩
 case round=>
  obtain ⟨k,q,rfl,rfl,rfl,HK⟩:=hrel
  rcases HK.out with ⟨rfl,rfl⟩|⟨rfl,rfl⟩|⟨rfl,rfl⟩
  ·clear HK
   have hq:¬ (n:Int)<0:=by omega
   go_wp2
   exact ⟨⟨1,n,by go_num,rfl,trivial,.inr (.inl ⟨rfl,rfl⟩)⟩,by simp[intOf]⟩
  ·clear HK
   have hq:¬ ((q:Int)+(m:Int))<0:=by omega
   go_wp2
   exact ⟨⟨2,q+m,by go_num,rfl,trivial,.inr (.inr ⟨rfl,rfl⟩)⟩,by simp[intOf]⟩
  ·clear HK
   go_wp2_with fail
   refine (grow_any (n+m) wr (by omega)).mono ?_
   rintro e w1 ⟨v,ys,rfl,H1⟩
   have c0':=(H1.out.2.cell (p:=⟨g,0,none⟩) hg).trans c0
   have c1':=(H1.out.2.cell (p:=⟨g,1,none⟩) hg).trans c1
   obtain ⟨wz,hwz⟩:∃x,x=wr:=⟨_,rfl⟩
   subst hwz
   have HC:Hid (w1.cell? ⟨g,0,none⟩=some (.slice a n c)/\w1.cell? ⟨g,1,none⟩=some (.slice b m d)/\g<w1.heap.size):=⟨c0',c1',Nat.lt_of_lt_of_le hg H1.out.2.size⟩
   clear c0 c1 c0' c1'
   go_wp2_with fail
   go_loopw [6,27] (fun v x wr=>∃(k:Nat),x=.int .i64 k/\Hid ((k=0/\∃ys,OwnT wz.heap.size wr v 0 ys 1000000000000/\ys.take 0=[])∨(k=1/\∃ys,OwnT wz.heap.size wr v n ys 1000000000000/\ys.take n=ss)∨(k=2/\∃ys,OwnT wz.heap.size wr v (n+m) ys 1000000000000/\ys.take (n+m)=ss++ts))/\Hid (Below wz.heap.size wz wr/\wr.cell? ⟨g,0,none⟩=some (.slice a n c)/\wr.cell? ⟨g,1,none⟩=some (.slice b m d))) (fun _ x _=>2 - (intOf x).toNat)
   case atStart=>exact ⟨0,rfl,.inl ⟨rfl,ys,H1.out.1,rfl⟩,H1.out.2,HC.out.1,HC.out.2.1⟩
   case round=>
    clear H1 HC
    obtain ⟨k,rfl,HK,HB⟩:=hrel
    have c0:=HB.out.2.1
    have c1:=HB.out.2.2
    rcases HK.out with ⟨rfl,zs,h1,h2⟩|⟨rfl,zs,h1,h2⟩|⟨rfl,zs,h1,h2⟩
    ·have HO:Hid (OwnT wz.heap.size wr u6 0 zs 1000000000000/\zs.take 0=[]/\RdT wr a ss/\∀s∈ss,s.size<=1000000000000):=⟨h1,h2,HN.out.1.rd.below HB.out.1,HN.out.1.mem⟩
     have HC:Hid (wr.cell? ⟨g,0,none⟩=some (.slice a n c)/\wr.cell? ⟨g,1,none⟩=some (.slice b m d)):=⟨c0,c1⟩
     clear HK h1 h2 c1
     go_wp2_with (at_builtin;refine wpList_append_T tyN _ rfl _ _ 23 9 Tryz.underlying23 rfl wz.heap.size _ 0 zs 1000000000000 rfl HO.out.1 a n c ss rfl HO.out.2.2.1 HL.out.1 HO.out.2.2.2 (by omega) HB.out.1.size ?_;intro v' w' ys' hO' hT' hG')
     have hne:∀j,u6.ownBlock=some j->wz.heap.size<=j:=HO.out.1.1.lt
     refine ⟨⟨1,by go_num,.inr (.inl ⟨rfl,ys',by simpa using hO'.out,by simpa using hT'.out⟩),HB.out.1.grown hG' HB.out.1.size hne,?_,?_⟩,by simp[intOf]⟩
     ·exact (World.cell?_of_block (hG'.block g (Nat.lt_of_lt_of_le hg HB.out.1.size) (fun e=>by have:=hne g e.symm;omega))).trans HC.out.1
     ·exact (World.cell?_of_block (hG'.block g (Nat.lt_of_lt_of_le hg HB.out.1.size) (fun e=>by have:=hne g e.symm;omega))).trans HC.out.2
    ·have HO:Hid (OwnT wz.heap.size wr u6 n zs 1000000000000/\zs.take n=ss/\RdT wr b ts/\∀s∈ts,s.size<=1000000000000):=⟨h1,h2,HN.out.2.rd.below HB.out.1,HN.out.2.mem⟩
     have HC:Hid (wr.cell? ⟨g,0,none⟩=some (.slice a n c)/\wr.cell? ⟨g,1,none⟩=some (.slice b m d)):=⟨c0,c1⟩
     clear HK h1 h2 c0
     go_wp2_with (at_builtin;refine wpList_append_T tyN _ rfl _ _ 23 9 Tryz.underlying23 rfl wz.heap.size _ n zs 1000000000000 rfl HO.out.1 b m d ts rfl HO.out.2.2.1 HL.out.2 HO.out.2.2.2 (by omega) HB.out.1.size ?_;intro v' w' ys' hO' hT' hG')
     have hne:∀j,u6.ownBlock=some j->wz.heap.size<=j:=HO.out.1.1.lt
     refine ⟨⟨2,by go_num,.inr (.inr ⟨rfl,ys',hO'.out,by rw[hT'.out,HO.out.2.1]⟩),HB.out.1.grown hG' HB.out.1.size hne,?_,?_⟩,by simp[intOf]⟩
     ·exact (World.cell?_of_block (hG'.block g (Nat.lt_of_lt_of_le hg HB.out.1.size) (fun e=>by have:=hne g e.symm;omega))).trans HC.out.1
     ·exact (World.cell?_of_block (hG'.block g (Nat.lt_of_lt_of_le hg HB.out.1.size) (fun e=>by have:=hne g e.symm;omega))).trans HC.out.2
    ·have HF:Hid (OwnT wz.heap.size wr u6 (ss++ts).length zs 1000000000000/\zs.take (ss++ts).length=ss++ts/\Below wz.heap.size wz wr):=by
      rw[List.length_append,HL.out.1,HL.out.2]
      exact ⟨h1,h2,HB.out.1⟩
     clear HK h1 h2 c0 c1
     go_wp2
     go_ret
     exact ⟨_,zs,rfl,HF⟩
theorem may_ok(a:Option Addr)(n c:Nat)(ss:List ByteArray)(w:World)(h:Nm w a n ss)(hk:nck ss=0):Calls Tryz.prog 55 #[.slice a n c] w fun e w'=>e=.returned (.tuple #[.slice a n c,.int .i64 0])/\w'=w:=by
 have K1:Hid (Calls Tryz.prog 19 #[.slice a n c] w fun e w'=>e=.returned (.int .i64 (nck ss))/\w'=w):=pm_check c h
 rw[hk] at K1
 clear h hk
 go_enter Tryz.func55,Tryz.ntmps55
 go_wp2_with fail
 refine K1.out.mono ?_
 rintro e w1 ⟨rfl,rfl⟩
 go_wp2
 go_ret2
 exact ⟨rfl,rfl⟩
theorem may_no(a:Option Addr)(n c:Nat)(ss:List ByteArray)(w:World)(h:Nm w a n ss)(hk:¬ nck ss=0):Calls Tryz.prog 55 #[.slice a n c] w fun e w'=>e=.returned (.tuple #[.slice none 0 0,.int .i64 (nck ss)])/\w'=w:=by
 have K1:Hid (Calls Tryz.prog 19 #[.slice a n c] w fun e w'=>e=.returned (.int .i64 (nck ss))/\w'=w):=pm_check c h
 generalize nck ss=q at*
 have hq:(q != 0)=true:=bne_iff_ne.2 hk
 clear h hk
 go_enter Tryz.func55,Tryz.ntmps55
 go_wp2_with fail
 refine K1.out.mono ?_
 rintro e w1 ⟨rfl,rfl⟩
 go_wp2
 go_ret2
 exact ⟨rfl,rfl⟩
theorem may_own(B:Nat)(w0:World)(a:Option Addr)(n c:Nat)(ss ys:List ByteArray)(w:World)(hl:ss.length=n)(ho:OwnT B w (.slice a n c) n ys 1000000000000)(ht:ys.take n=ss)(hz:nsz ss<=1000000000000)(hb:Below B w0 w)(hB:B=w0.heap.size) :
  Calls Tryz.prog 55 #[.slice a n c] w fun e w'=>NPost (if nck ss=0 then ss else []) (nck ss) w0 e w':=by
 have hn:Nm w a n ss:=⟨by have:=ho.rd n;rw[ht] at this;exact this,hl,hz⟩
 subst hB
 by_cases hk:nck ss=0
 ·rw[if_pos hk,hk]
  refine (may_ok a n c ss w hn hk).mono ?_
  rintro e w' ⟨rfl,rfl⟩
  exact ⟨_,ys,rfl,by rw[hl];exact ho,by rw[hl];exact ht,hb⟩
 ·rw[if_neg hk]
  refine (may_no a n c ss w hn hk).mono ?_
  rintro e w' ⟨rfl,rfl⟩
  exact npost_none rfl hb
theorem nck_cat{a b:List ByteArray}(h:nck a=0)(h':nck b=0):nck (a++b)=0∨nck (a++b)=5:=by
 have h1:=(nck_small h).2
 have h2:=(nck_small h').2
 have:labsOk (a++b):=by
  intro s hs
  rcases List.mem_append.1 hs with hs|hs
  ·exact h1 s hs
  ·exact h2 s hs
 unfold nck
 rw[if_pos this]
 by_cases hz:255<nsz (a++b)
 ·rw[if_pos hz];exact .inr rfl
 ·rw[if_neg hz];exact .inl rfl
theorem pjoin_any(a b:Option Addr)(n m c d:Nat)(ss ts:List ByteArray)(w:World)(h:Nm w a n ss)(h':Nm w b m ts):Calls Tryz.prog 56 #[.slice a n c,.slice b m d] w (NPost (njoin ss ts).1 (njoin ss ts).2 w):=by
 have K1:Hid (Calls Tryz.prog 19 #[.slice a n c] w fun e w'=>e=.returned (.int .i64 (nck ss))/\w'=w):=pm_check c h
 have K2:Hid (Calls Tryz.prog 19 #[.slice b m d] w fun e w'=>e=.returned (.int .i64 (nck ts))/\w'=w):=pm_check d h'
 by_cases hk:nck ss=0
 ·rw[hk] at K1
  by_cases hk2:nck ts=0
  ·rw[hk2] at K2
   have z1:=nck_small hk
   have z2:=nck_small hk2
   have hJ:nsz (ss++ts)<=1000000000000:=by have:=nsz_append ss ts;omega
   have hlen:(ss++ts).length=n+m:=by rw[List.length_append,h.len,h'.len]
   have hj:njoin ss ts=(if nck (ss++ts)=0 then ss++ts else [],nck (ss++ts)):=by
    unfold njoin
    rw[if_pos hk,if_pos hk2]
    rcases nck_cat hk hk2 with e|e
    ·rw[if_pos e,if_pos e,e]
    ·rw[if_neg (by omega),if_neg (by omega),e]
   rw[hj]
   have hb:Below w.heap.size w (w.alloc (.cells #[.slice a n c,.slice b m d] 23)):=(Below.refl _ _).alloc (Nat.le_refl _) _
   have KC:Hid (Calls Tryz.prog 92 #[.slice (some ⟨w.heap.size,0,none⟩) 2 2] (w.alloc (.cells #[.slice a n c,.slice b m d] 23)) (CopyPost (ss++ts) 1000000000000 (w.alloc (.cells #[.slice a n c,.slice b m d] 23)))):=
    concat_any w.heap.size a b n m c d ss ts _ (by simp) (by simp[go_sem]) (by simp[go_sem]) (h.below hb) (h'.below hb)
   have KM:Hid (∀W v ys,OwnT w.heap.size W v (ss++ts).length ys 1000000000000->ys.take (ss++ts).length=ss++ts->Below w.heap.size w W->∃ao,v=.slice ao (n+m) ys.length/\Calls Tryz.prog 55 #[.slice ao (n+m) ys.length] W fun e w'=>NPost (if nck (ss++ts)=0 then ss++ts else []) (nck (ss++ts)) w e w'):=by
    intro W v ys ho ht hB
    obtain ⟨ao,hv,_⟩:=ho.shape
    rw[hlen] at hv ho ht
    subst hv
    exact ⟨ao,rfl,may_own w.heap.size w ao (n+m) ys.length (ss++ts) ys W hlen ho ht hJ hB rfl⟩
   have HB:Hid (Below w.heap.size w (w.alloc (.cells #[.slice a n c,.slice b m d] 23))):=hb
   clear h h' hk hk2 z1 z2 hj hb hJ hlen
   generalize (if nck (ss++ts)=0 then ss++ts else [])=R at*
   generalize nck (ss++ts)=q at*
   go_enter Tryz.func56,Tryz.ntmps56
   go_wp2_with fail
   refine K1.out.mono ?_
   rintro e w1 ⟨rfl,rfl⟩
   go_wp2_with fail
   refine K2.out.mono ?_
   rintro e w1 ⟨rfl,rfl⟩
   go_wp2_with fail
   refine KC.out.mono ?_
   rintro e w2 ⟨v,ys,rfl,H2⟩
   have hB2:Below w1.heap.size w1 w2:=HB.out.trans (H2.out.2.2.mono HB.out.size)
   obtain ⟨ao,rfl,K3⟩:=KM.out w2 v ys (H2.out.1.mono (by simp)) H2.out.2.1 hB2
   have HK3:Hid (Calls Tryz.prog 55 #[.slice ao (n+m) ys.length] w2 fun e w'=>NPost R q w1 e w'):=K3
   clear K1 K2 KC KM H2 hB2 HB K3
   go_wp2_with fail
   refine HK3.out.mono ?_
   rintro e w3 ⟨v,zs,rfl,H3⟩
   go_wp2
   go_ret2
   exact ⟨v,zs,rfl,H3⟩
  ·have hj:njoin ss ts=([],nck ts):=by unfold njoin;rw[if_pos hk,if_neg hk2]
   rw[hj]
   generalize nck ts=q at*
   have hq:(q != 0)=true:=bne_iff_ne.2 hk2
   clear h h' hk hj hk2
   go_enter Tryz.func56,Tryz.ntmps56
   go_wp2_with fail
   refine K1.out.mono ?_
   rintro e w1 ⟨rfl,rfl⟩
   go_wp2_with fail
   refine K2.out.mono ?_
   rintro e w1 ⟨rfl,rfl⟩
   go_wp2
   go_ret2
   exact npost_none rfl (Below.refl _ _)
 ·have hj:njoin ss ts=([],nck ss):=by unfold njoin;rw[if_neg hk]
  rw[hj]
  generalize nck ss=q at*
  have hq:(q != 0)=true:=bne_iff_ne.2 hk
  clear h h' hk hj K2
  go_enter Tryz.func56,Tryz.ntmps56
  go_wp2_with fail
  refine K1.out.mono ?_
  rintro e w1 ⟨rfl,rfl⟩
  go_wp2
  go_ret2
  exact npost_none rfl (Below.refl _ _)
theorem go_dot(l:List Int)(hb:∀z∈l,0<=z/\z<=255):∀(n p:Nat) (out o:List Int) (q:Nat),l.length - p<=n->p<=l.length->go l p out=some (o,q)->q<l.length->l.getD q 0=46:=by
 intro n
 induction n with
 |zero=>
  intro p out o q hn hp h hq
  have hpe:¬ (p<l.length/\l.getD p 0≠46):=by omega
  rw[go_stop l p out hpe] at h
  cases h
  omega
 |succ n ih=>
  intro p out o q hn hp h hq
  by_cases hc:p<l.length/\l.getD p 0≠46
  ·have hbd:=fr_bd (l.drop p) (fun z hz=>hb z (List.mem_of_mem_drop hz)) (by simp;omega)
   by_cases h0:(fr (l.drop p)).2<=0
   ·rw[go_bad l p out hc h0] at h;cases h
   ·rw[go_step l p out hc h0] at h
    have hl:((l.drop p).length:Int)=(l.length:Int) - (p:Int):=by simp;omega
    exact ih _ _ o q (by omega) (by omega) h hq
  ·rw[go_stop l p out hc] at h
   cases h
   by_cases h46:l.getD p 0=46
   ·exact h46
   ·exact absurd ⟨hq,h46⟩ hc
theorem pres_dot (l : List Int) (hb : ∀ z ∈ l, 0 <= z /\ z <= 255) (p : Nat) (h : (pres l).2.2 = 0) (hp : (pres l).2.1 = (p : Int)) (hl : p < l.length) : l.getD p 0 = 46 := by
  unfold pres at h hp
  cases hg : go l 0 [] with
  | none => rw [hg] at h; cases h
  | some r =>
    obtain ⟨o, q⟩ := r
    rw [hg] at h hp
    dsimp only at h hp
    by_cases hc : 1 <= o.length /\ o.length <= 63
    · rw [if_pos hc] at hp
      have e : q = p := by have : (q : Int) = (p : Int) := by simpa using hp
                           omega
      subst e
      exact go_dot l hb l.length 0 [] o q (by omega) (by omega) hg hl
    · rw [if_neg hc] at h
      exact absurd h (by decide)
theorem hasp_no(t:ByteArray)(w:World)(h:t.size=0):Calls Tryz.prog 171 #[.string t,.string ⟨#[46]⟩] w fun e w'=>e=.returned (.bool false)/\w'=w:=by
 go_enter Tryz.func171,Tryz.ntmps171
 go_wp2
 go_ret
 exact ⟨rfl,rfl⟩
theorem hasp_yes(t:ByteArray)(w:World)(h:1<=t.size)(hm:t.size<=9223372036854775807)(h46:t.extract 0 1=⟨#[46]⟩):Calls Tryz.prog 171 #[.string t,.string ⟨#[46]⟩] w fun e w'=>e=.returned (.bool true)/\w'=w:=by
 have h1:(1:Int)<=(t.size:Int):=by omega
 go_enter Tryz.func171,Tryz.ntmps171
 go_wp2
 go_ret
 exact ⟨rfl,rfl⟩
theorem cut1_no(t:ByteArray)(w:World)(h:t.size=0):Calls Tryz.prog 134 #[.string t,.string ⟨#[46]⟩] w fun e w'=>e=.returned (.tuple #[.string t,.bool false])/\w'=w:=by
 have K:Hid (∀W,Calls Tryz.prog 171 #[.string t,.string ⟨#[46]⟩] W fun e w'=>e=.returned (.bool false)/\w'=W):=fun W=>hasp_no t W h
 clear h
 go_enter Tryz.func134,Tryz.ntmps134
 go_wp2_with fail
 refine (K.out _).mono ?_
 rintro e w1 ⟨rfl,rfl⟩
 go_wp2
 go_ret2
 exact ⟨rfl,rfl⟩
theorem cut_no(t:ByteArray)(w:World)(h:t.size=0):Calls Tryz.prog 91 #[.string t,.string ⟨#[46]⟩] w fun e w'=>e=.returned (.tuple #[.string t,.bool false])/\w'=w:=by
 have K:Hid (∀W,Calls Tryz.prog 134 #[.string t,.string ⟨#[46]⟩] W fun e w'=>e=.returned (.tuple #[.string t,.bool false])/\w'=W):=fun W=>cut1_no t W h
 clear h
 go_enter Tryz.func91,Tryz.ntmps91
 go_wp2_with fail
 refine (K.out _).mono ?_
 rintro e w1 ⟨rfl,rfl⟩
 go_wp2
 go_ret2
 exact ⟨rfl,rfl⟩
theorem cut1_yes(t:ByteArray)(w:World)(h:1<=t.size)(hm:t.size<=9223372036854775807)(h46:t.extract 0 1=⟨#[46]⟩):Calls Tryz.prog 134 #[.string t,.string ⟨#[46]⟩] w fun e w'=>e=.returned (.tuple #[.string (t.extract 1 t.size),.bool true])/\w'=w:=by
 have K:Hid (∀W,Calls Tryz.prog 171 #[.string t,.string ⟨#[46]⟩] W fun e w'=>e=.returned (.bool true)/\w'=W):=fun W=>hasp_yes t W h hm h46
 have h1:(1:Int)<=(t.size:Int):=by omega
 clear h46
 go_enter Tryz.func134,Tryz.ntmps134
 go_wp2_with fail
 refine (K.out _).mono ?_
 rintro e w1 ⟨rfl,rfl⟩
 go_wp2
 go_ret2
 exact ⟨rfl,rfl⟩
theorem cut_yes(t:ByteArray)(w:World)(h:1<=t.size)(hm:t.size<=9223372036854775807)(h46:t.extract 0 1=⟨#[46]⟩):Calls Tryz.prog 91 #[.string t,.string ⟨#[46]⟩] w fun e w'=>e=.returned (.tuple #[.string (t.extract 1 t.size),.bool true])/\w'=w:=by
 have K:Hid (∀W,Calls Tryz.prog 134 #[.string t,.string ⟨#[46]⟩] W fun e w'=>e=.returned (.tuple #[.string (t.extract 1 t.size),.bool true])/\w'=W):=fun W=>cut1_yes t W h hm h46
 generalize t.extract 1 t.size=q at*
 clear h46
 go_enter Tryz.func91,Tryz.ntmps91
 go_wp2_with fail
 refine (K.out _).mono ?_
 rintro e w1 ⟨rfl,rfl⟩
 go_wp2
 go_ret2
 exact ⟨rfl,rfl⟩
theorem nums_inj{a b:ByteArray}(h:nums a=nums b):a=b:=by rw[<- txt_back a,<- txt_back b,h]
theorem nums_extract2(s:ByteArray)(p q:Nat):nums (s.extract p q)=((nums s).take q).drop p:=by
 simp only[nums,ByteArray.data_extract,Array.toList_extract,List.map_drop,List.map_take,List.extract]
 rw[List.drop_take]
theorem head_dot(t:ByteArray)(h:1<=t.size)(h46:(nums t).getD 0 0=46):t.extract 0 1=⟨#[46]⟩:=by
 apply nums_inj
 rw[nums_extract2]
 have hl:=nums_len t
 cases hn:nums t with
 |nil=>rw[hn] at hl;simp at hl;omega
 |cons x l=>
  rw[hn] at h46
  have e:x=46:=by simpa using h46
  subst e
  rfl
def plab(s:ByteArray):List ByteArray × Bool × Int:=if s.toList=[46] then ([],true,0) else lgo (nums s) []
theorem plabels_any(s:ByteArray)(w:World)(hs:s.size<=1000000000):Calls Tryz.prog 54 #[.string s] w (LPost (plab s) w):=by
 by_cases hd:s.toList=[46]
 ·have hp:plab s=([],true,0):=by unfold plab;rw[if_pos hd]
  rw[hp]
  clear hp
  go_enter Tryz.func54,Tryz.ntmps54
  go_wp2
  go_ret3
  exact ⟨.slice none 0 0,[],rfl,OwnT.nil _ _ _,rfl,Below.refl _ _⟩
 have hp:plab s=lgo (nums s) []:=by unfold plab;rw[if_neg hd]
 rw[hp]
 have hdf:(s.toList == [46])=false:=by simpa using hd
 obtain ⟨R,hR⟩:∃R,lgo (nums s) []=R:=⟨_,rfl⟩
 have HR0:Hid (lgo (nums s) []=R):=hR
 rw[hR]
 clear hR hp hd
 go_enter Tryz.func54,Tryz.ntmps54
 go_wp2_with fail
 go_loopw [0,5] (fun x v wr=>∃(t:ByteArray) (out:List ByteArray),x=.string t/\t.size<=1000000000/\out.length+t.size<=1000000000/\Hid (lgo (nums t) out=R)/\Hid (∃ys,OwnT w.heap.size wr v out.length ys 1000000000000/\ys.take out.length=out)/\Hid (Below w.heap.size w wr)) (fun x _ _=>match x with | .string t=>t.size|_=>0)
 case atStart=>exact ⟨s,[],rfl,hs,by simpa using hs,HR0,⟨[],OwnT.nil _ _ _,rfl⟩,Below.refl _ _⟩
 case round=>
  clear hdf
  obtain ⟨t,out,rfl,htz,hout,HK,HW,HB⟩:=hrel
  have KP:Hid (∀W,Calls Tryz.prog 90 #[.string t] W fun e w'=>e=.returned (.tuple #[.string (lb (pres (nums t)).1),.int .i64 (pres (nums t)).2.1,.int .i64 (pres (nums t)).2.2])/\Hid (Below W.heap.size W w')):=fun W=>parse_any t W (by omega)
  have HU:Hid (lgo (nums t) out=if (pres (nums t)).2.2=0 then (if (pres (nums t)).2.1=(t.size:Int) then (out++[lb (pres (nums t)).1],false,0) else if ((nums t).drop ((pres (nums t)).2.1.toNat+1)).length=0 then (out++[lb (pres (nums t)).1],true,0) else lgo ((nums t).drop ((pres (nums t)).2.1.toNat+1)) (out++[lb (pres (nums t)).1])) else ([],false,(pres (nums t)).2.2)):=by
   show _=_
   rw[lgo,nums_len]
   split <;> rfl
  by_cases h0:(pres (nums t)).2.2=0
  ·obtain ⟨p,hp,hpl,hl1,hl2⟩:=pres_le (nums t) (nums_all t) h0
   rw[nums_len] at hpl
   have hlz:(lb (pres (nums t)).1).size<=1000000000000:=by rw[lb_size];omega
   have hdot:p<t.size->(nums t).getD p 0=46:=fun h=>pres_dot (nums t) (nums_all t) p h0 hp (by rw[nums_len];exact h)
   rw[h0,if_pos rfl,hp,Int.toNat_natCast] at HU
   rw[h0,hp] at KP
   generalize lb (pres (nums t)).1=f at*
   clear h0 hp hl1 hl2
   have hpI:(p:Int)<=(t.size:Int):=by omega
   have hz1:(t.extract p t.size).size=t.size - p:=by simp
   have HN1:Hid (nums (t.extract p t.size)=(nums t).drop p):=nums_extract t p
   by_cases hpt:p=t.size
   ·have e:R=(out++[f],false,0):=by rw[<- HK.out,HU.out,if_pos (by omega)]
    subst e
    have KC:Hid (∀W,Calls Tryz.prog 91 #[.string (t.extract p t.size),.string ⟨#[46]⟩] W fun e w'=>e=.returned (.tuple #[.string (t.extract p t.size),.bool false])/\w'=W):=fun W=>cut_no _ W (by rw[hz1];omega)
    have hze:((t.extract p t.size).toList == [])=true:=by
     have:(t.extract p t.size).toList=[]:=by rw[ba_toList];exact List.eq_nil_of_length_eq_zero (by have:(t.extract p t.size).data.toList.length=(t.extract p t.size).size:=rfl;omega)
     rw[this];rfl
    clear HU HK HR0 hdot hz1 HN1 hpt
    go_wp2_with fail
    refine (KP.out _).mono ?_
    rintro e w1 ⟨rfl,H1⟩
    obtain ⟨ys,hO,hT⟩:=HW.out
    have hnb:Below wr.heap.size wr (w1.alloc (.cells #[.string f] 9)):=H1.out.alloc H1.out.size _
    have HO2:Hid (OwnT w.heap.size (w1.alloc (.cells #[.string f] 9)) u5 out.length ys 1000000000000/\ys.take out.length=out):=⟨hO.below hnb,hT⟩
    have HNB:Hid (Below wr.heap.size wr (w1.alloc (.cells #[.string f] 9))):=hnb
    clear hO hT hnb KP
    go_wp2_with (at_builtin;refine wpList_append_T tyN _ rfl _ _ 23 9 Tryz.underlying23 rfl w.heap.size _ out.length ys 1000000000000 rfl HO2.out.1 (some ⟨w1.heap.size,0,none⟩) 1 1 [f] rfl (one_rdT w1 f) rfl (by intro s hs;simp at hs;subst hs;exact hlz) (by omega) (Nat.le_trans HB.out.size HNB.out.size) ?_;intro v' w' ys' hO' hT' hG';have HB2:Hid (Below w.heap.size w w'):=((HB.out.trans (HNB.out.mono HB.out.size)).grown hG' (Nat.le_trans HB.out.size HNB.out.size) HO2.out.1.1.lt);clear hG')
    refine (KC.out _).mono ?_
    rintro e w3 ⟨rfl,rfl⟩
    clear KC
    go_wp2
    go_ret3
    refine ⟨v',ys',rfl,?_,?_,HB2.out⟩
    ·rw[List.length_append];exact hO'.out
    ·rw[List.length_append];exact hT'.out.trans (by rw[HO2.out.2])
   ·have hp1:p+1<=t.size:=by omega
    have h46:(t.extract p t.size).extract 0 1=⟨#[46]⟩:=by
     refine head_dot _ (by rw[hz1];omega) ?_
     rw[HN1.out,List.getD_eq_getElem?_getD,List.getElem?_drop,Nat.add_zero,<- List.getD_eq_getElem?_getD]
     exact hdot (by omega)
    have KC:Hid (∀W,Calls Tryz.prog 91 #[.string (t.extract p t.size),.string ⟨#[46]⟩] W fun e w'=>e=.returned (.tuple #[.string ((t.extract p t.size).extract 1 (t.extract p t.size).size),.bool true])/\w'=W):=fun W=>cut_yes _ W (by rw[hz1];omega) (by rw[hz1];omega) h46
    have HN2:Hid (nums ((t.extract p t.size).extract 1 (t.extract p t.size).size)=(nums t).drop (p+1)):=by
     show _=_
     rw[nums_extract,HN1.out,List.drop_drop]
    have hz2:((t.extract p t.size).extract 1 (t.extract p t.size).size).size=t.size - (p+1):=by
     have:=congrArg List.length HN2.out
     rw[nums_len,List.length_drop,nums_len] at this
     exact this
    generalize (t.extract p t.size).extract 1 (t.extract p t.size).size=L at*
    rw[if_neg (by omega),List.length_drop,nums_len] at HU
    clear h46 hdot hz1 HN1
    by_cases hp2:p+1=t.size
    ·have e:R=(out++[f],true,0):=by rw[<- HK.out,HU.out,if_pos (by omega)]
     subst e
     have hze:(L.toList == [])=true:=by
      have:L.toList=[]:=by rw[ba_toList];exact List.eq_nil_of_length_eq_zero (by have:L.data.toList.length=L.size:=rfl;omega)
      rw[this];rfl
     clear HU HK HR0 HN2 hz2 hp2
     go_wp2_with fail
     refine (KP.out _).mono ?_
     rintro e w1 ⟨rfl,H1⟩
     obtain ⟨ys,hO,hT⟩:=HW.out
     have hnb:Below wr.heap.size wr (w1.alloc (.cells #[.string f] 9)):=H1.out.alloc H1.out.size _
     have HO2:Hid (OwnT w.heap.size (w1.alloc (.cells #[.string f] 9)) u5 out.length ys 1000000000000/\ys.take out.length=out):=⟨hO.below hnb,hT⟩
     have HNB:Hid (Below wr.heap.size wr (w1.alloc (.cells #[.string f] 9))):=hnb
     clear hO hT hnb KP
     go_wp2_with (at_builtin;refine wpList_append_T tyN _ rfl _ _ 23 9 Tryz.underlying23 rfl w.heap.size _ out.length ys 1000000000000 rfl HO2.out.1 (some ⟨w1.heap.size,0,none⟩) 1 1 [f] rfl (one_rdT w1 f) rfl (by intro s hs;simp at hs;subst hs;exact hlz) (by omega) (Nat.le_trans HB.out.size HNB.out.size) ?_;intro v' w' ys' hO' hT' hG';have HB2:Hid (Below w.heap.size w w'):=((HB.out.trans (HNB.out.mono HB.out.size)).grown hG' (Nat.le_trans HB.out.size HNB.out.size) HO2.out.1.1.lt);clear hG')
     refine (KC.out _).mono ?_
     rintro e w3 ⟨rfl,rfl⟩
     clear KC
     go_wp2
     go_ret3
     refine ⟨v',ys',rfl,?_,?_,HB2.out⟩
     ·rw[List.length_append];exact hO'.out
     ·rw[List.length_append];exact hT'.out.trans (by rw[HO2.out.2])
    ·have HK2:Hid (lgo (nums L) (out++[f])=R):=by
      show _=_
      rw[HN2.out,<- HK.out,HU.out,if_neg (by omega)]
     have hze:(L.toList == [])=false:=by
      cases hL:L.toList with
      |nil=>
       have:L.size=0:=by
        have h:=congrArg List.length hL
        rw[ba_toList] at h
        exact h
       omega
      |cons x l=>rfl
     clear HU HK HR0 HN2
     go_wp2_with fail
     refine (KP.out _).mono ?_
     rintro e w1 ⟨rfl,H1⟩
     obtain ⟨ys,hO,hT⟩:=HW.out
     have hnb:Below wr.heap.size wr (w1.alloc (.cells #[.string f] 9)):=H1.out.alloc H1.out.size _
     have HO2:Hid (OwnT w.heap.size (w1.alloc (.cells #[.string f] 9)) u5 out.length ys 1000000000000/\ys.take out.length=out):=⟨hO.below hnb,hT⟩
     have HNB:Hid (Below wr.heap.size wr (w1.alloc (.cells #[.string f] 9))):=hnb
     clear hO hT hnb KP
     go_wp2_with (at_builtin;refine wpList_append_T tyN _ rfl _ _ 23 9 Tryz.underlying23 rfl w.heap.size _ out.length ys 1000000000000 rfl HO2.out.1 (some ⟨w1.heap.size,0,none⟩) 1 1 [f] rfl (one_rdT w1 f) rfl (by intro s hs;simp at hs;subst hs;exact hlz) (by omega) (Nat.le_trans HB.out.size HNB.out.size) ?_;intro v' w' ys' hO' hT' hG';have HB2:Hid (Below w.heap.size w w'):=((HB.out.trans (HNB.out.mono HB.out.size)).grown hG' (Nat.le_trans HB.out.size HNB.out.size) HO2.out.1.1.lt);clear hG')
     refine (KC.out _).mono ?_
     rintro e w3 ⟨rfl,rfl⟩
     clear KC
     go_wp2
     refine ⟨⟨L,out++[f],rfl,by omega,by rw[List.length_append,hz2];show out.length+1+_<=_;omega,HK2,⟨ys',?_,?_⟩,HB2⟩,by simp only[hz2];omega⟩
     ·rw[List.length_append];exact hO'.out
     ·rw[List.length_append];exact hT'.out.trans (by rw[HO2.out.2])
  ·have e:R=([],false,(pres (nums t)).2.2):=by rw[<- HK.out,HU.out,if_neg h0]
   subst e
   generalize (pres (nums t)).2.2=q at*
   have hq:(q != 0)=true:=bne_iff_ne.2 h0
   clear HU HK HR0 h0
   go_wp2_with fail
   refine (KP.out _).mono ?_
   rintro e w1 ⟨rfl,H1⟩
   go_wp2
   go_ret3
   exact ⟨.slice none 0 0,[],rfl,OwnT.nil _ _ _,rfl,HB.out.trans (H1.out.mono HB.out.size)⟩
structure Dat where
 ns:List (List ByteArray)
 us:List Nat
 ts:List ByteArray
 raw:List Int
structure Shp where
 nn:Nat
 nu:Nat
 nt:Int
 nr:Int
 wd:Nat
def shp(t:Nat):Shp:=
 if t=1 then ⟨0,0,0,4,0⟩ else if t=28 then ⟨0,0,0,16,0⟩ else if t=2∨t=5∨t=12 then ⟨1,0,0,0,0⟩ else if t=6 then ⟨2,5,0,0,4⟩ else
 if t=15 then ⟨1,1,0,0,2⟩ else if t=33 then ⟨1,3,0,0,2⟩ else if t=16 then ⟨0,0,-1,0,0⟩ else if t=257 then ⟨0,1,2,0,1⟩ else ⟨0,0,0,-1,0⟩
def mayT(t:Nat):Bool:=decide (t≠0) && (decide (t<128) || decide (255<t))
def most(wd:Nat):Nat:=if wd=1 then 255 else if wd=2 then 65535 else 4294967295
def alnum(z:Int):Bool:=(decide (97<=z) && decide (z<=122)) || (decide (65<=z) && decide (z<=90)) || (decide (48<=z) && decide (z<=57))
def tagB(s:ByteArray):Bool:=decide (1<=s.size) && decide (s.size<=15) && (nums s).all alnum
def fitsB(t:Nat)(d:Dat):Bool:=
 decide (d.ns.length=(shp t).nn) && decide (d.us.length=(shp t).nu) && (decide ((shp t).nt<0) || decide ((d.ts.length:Int)=(shp t).nt)) && (decide (0<=(shp t).nt) || decide (d.ts.length≠0)) &&
 (decide ((shp t).nr<0) || decide ((d.raw.length:Int)=(shp t).nr)) && d.us.all (fun n=>decide (n<=most (shp t).wd)) && (decide (t≠16) || d.ts.all (fun s=>decide (s.size<=255))) && (decide (t≠257) || tagB (d.ts.getD 0 ⟨#[]⟩))
def tsz(t:Nat)(l:List ByteArray):Nat:=if t=16 then (nby l).length else (match l with|[]=>0|s::r=>s.size+1+(r.flatMap nums).length)
def sizesF(t:Nat)(d:Dat):Nat:=d.raw.length+d.us.length*(shp t).wd+(d.ns.map nsz).sum+tsz t d.ts
def nsErr:List (List ByteArray)->Int
 |[]=>0
 |n::r=>if nck n=0 then nsErr r else nck n
def checkF(t:Nat)(d:Dat):Int:=if mayT t then (if fitsB t d then (if nsErr d.ns=0 then (if 65535<sizesF t d then 3 else 0) else nsErr d.ns) else 7) else 6
theorem nsErr_all:∀l:List (List ByteArray),nsErr l=0↔∀n∈l,nck n=0
 |[]=>by simp[nsErr]
 |n::r=>by
  have ih:=nsErr_all r
  unfold nsErr
  by_cases h:nck n=0
  ·rw[if_pos h,ih];simp[h]
  ·rw[if_neg h];simp[h]
theorem check_parts{t:Nat}{d:Dat}(h:checkF t d=0):mayT t=true/\fitsB t d=true/\(∀n∈d.ns,nck n=0)/\sizesF t d<=65535:=by
 unfold checkF at h
 split at h
 ·rename_i h1
  split at h
  ·rename_i h2
   split at h
   ·rename_i h3
    split at h
    ·cases h
    ·rename_i h4
     exact ⟨h1,h2,(nsErr_all _).1 h3,by omega⟩
   ·rename_i h3;exact absurd h h3
  ·cases h
 ·cases h
theorem len0{α:Type}{l:List α}(h:l.length=0):l=[]:=List.eq_nil_of_length_eq_zero h
theorem len1{α:Type}{l:List α}(h:l.length=1):∃a,l=[a]:=List.length_eq_one_iff.1 h
theorem shp_cases(t:Nat):(t=1/\shp t=⟨0,0,0,4,0⟩)∨(t=28/\shp t=⟨0,0,0,16,0⟩)∨((t=2∨t=5∨t=12)/\shp t=⟨1,0,0,0,0⟩)∨(t=6/\shp t=⟨2,5,0,0,4⟩)∨(t=15/\shp t=⟨1,1,0,0,2⟩)∨(t=33/\shp t=⟨1,3,0,0,2⟩)∨(t=16/\shp t=⟨0,0,-1,0,0⟩)∨(t=257/\shp t=⟨0,1,2,0,1⟩) ∨
  ((t≠1/\t≠28/\t≠2/\t≠5/\t≠12/\t≠6/\t≠15/\t≠33/\t≠16/\t≠257)/\shp t=⟨0,0,0,-1,0⟩):=by
 by_cases h1:t=1
 ·subst h1;left;exact ⟨rfl,rfl⟩
 by_cases h2:t=28
 ·subst h2;right;left;exact ⟨rfl,rfl⟩
 by_cases h3:t=2∨t=5∨t=12
 ·right;right;left;refine ⟨h3,?_⟩;rcases h3 with rfl|rfl|rfl <;> rfl
 by_cases h4:t=6
 ·subst h4;right;right;right;left;exact ⟨rfl,rfl⟩
 by_cases h5:t=15
 ·subst h5;right;right;right;right;left;exact ⟨rfl,rfl⟩
 by_cases h6:t=33
 ·subst h6;right;right;right;right;right;left;exact ⟨rfl,rfl⟩
 by_cases h7:t=16
 ·subst h7;right;right;right;right;right;right;left;exact ⟨rfl,rfl⟩
 by_cases h8:t=257
 ·subst h8;right;right;right;right;right;right;right;left;exact ⟨rfl,rfl⟩
 ·right;right;right;right;right;right;right;right
  refine ⟨⟨h1,h2,fun e=>h3 (.inl e),fun e=>h3 (.inr (.inl e)),fun e=>h3 (.inr (.inr e)),h4,h5,h6,h7,h8⟩,?_⟩
  unfold shp
  rw[if_neg h1,if_neg h2,if_neg h3,if_neg h4,if_neg h5,if_neg h6,if_neg h7,if_neg h8]
theorem nums_lb(l:List Int)(h:∀z∈l,0<=z/\z<=255):nums (lb l)=l:=nums_back l h
theorem lb_nums(s:ByteArray):lb (nums s)=s:=txt_nums s
def xhexs(l:List Int):List Int:=l.flatMap fun c=>[xhd (c / 16).toNat,xhd (c % 16).toNat]
theorem xhexs_len(l:List Int):(xhexs l).length=2*l.length:=by
 induction l with
 |nil=>rfl
 |cons c l ih=>
  show (xhd (c / 16).toNat::xhd (c % 16).toNat::xhexs l).length=_
  simp only[List.length_cons,ih];omega
theorem xhd_by(v:Nat)(h:v<16):48<=xhd v/\xhd v<=102:=by unfold xhd;split <;> omega
theorem xhexs_by(l:List Int)(h:∀c∈l,0<=c/\c<=255):∀c∈xhexs l,48<=c/\c<=102:=by
 intro c hc
 simp only[xhexs,List.mem_flatMap] at hc
 obtain ⟨b,hb,hc⟩:=hc
 have:=h b hb
 simp only[List.mem_cons,List.not_mem_nil,or_false] at hc
 rcases hc with rfl|rfl
 ·exact xhd_by _ (by omega)
 ·exact xhd_by _ (by omega)
def xkn(t:Nat):Bool:=[1,2,5,6,12,15,16,28,33,257].contains t
def xqw(s:ByteArray):ByteArray:=lb (xquote (nums s))
def xtw(t:Nat)(ts:List ByteArray):List ByteArray:=if t=257 then (match ts with|[]=>[]|a::r=>a::r.map xqw) else ts.map xqw
def xnw(n:Nat):ByteArray:=lb (xdec n)
def xwords(t:Nat)(d:Dat):List ByteArray:=
 if t=1∨t=28 then [lb ((xaddr d.raw).getD [])]
 else if xkn t=false then lb [92,35]::xnw d.raw.length::(if d.raw=[] then [] else [lb (xhexs d.raw)])
 else if t=6 then d.ns.map (fun n=>(ntext n).1)++d.us.map xnw
 else d.us.map xnw++d.ns.map (fun n=>(ntext n).1)++xtw t d.ts
def xterm(s:ByteArray):ByteArray × Bool:=if (nums s).head?=some 34/\2<=s.size then (lb (nums s).tail.dropLast,true) else (s,false)
theorem xterm_no(s:ByteArray)(h:(nums s).head?≠some 34):xterm s=(s,false):=by
 unfold xterm;rw[if_neg (fun e=>h e.1)]
theorem xquote_by(l:List Int)(h:∀c∈l,0<=c/\c<=255):∀c∈xquote l,0<=c/\c<=255:=fun c hc=>by have:=xquote_print l h c hc;omega
theorem xdec_by(n:Nat):∀c∈xdec n,0<=c/\c<=255:=fun c hc=>by have:=xdec_digit n c hc;omega
theorem xnw_nums(n:Nat):nums (xnw n)=xdec n:=nums_lb _ (xdec_by n)
theorem xjoin_mem(k c:Int)(ps:List (List Int))(h:c∈xjoin k ps):c=k∨∃p∈ps,c∈p:=by
 induction ps with
 |nil=>simp[xjoin] at h
 |cons p ps ih=>
  cases ps with
  |nil=>exact .inr ⟨p,by simp,h⟩
  |cons q ps=>
   simp only[xjoin,List.mem_append,List.mem_cons] at h
   rcases h with h|h|h
   ·exact .inr ⟨p,by simp,h⟩
   ·exact .inl h
   ·rcases ih h with h|⟨x,h1,h2⟩
    ·exact .inl h
    ·exact .inr ⟨x,List.mem_cons_of_mem _ h1,h2⟩
def xok(c:Int):Prop:=46<=c/\c<=102/\c≠92
theorem xhex_ok(n:Nat):∀c∈xhex n,xok c:=by
 induction n using Nat.strongRecOn with
 |_ n ih=>
  rw[xhex]
  have hd:∀v,v<16->xok (xhd v):=by intro v hv;unfold xhd xok;split <;> omega
  by_cases h:n<16
  ·rw[dif_pos h];intro c hc;simp at hc;subst hc;exact hd n h
  ·rw[dif_neg h];intro c hc
   simp only[List.mem_append,List.mem_singleton] at hc
   rcases hc with hc|rfl
   ·exact ih (n / 16) (by omega) c hc
   ·exact hd _ (by omega)
theorem xcol_ok(l:List Nat):∀c∈xcol l,xok c:=by
 intro c hc
 rcases xjoin_mem _ _ _ hc with rfl|⟨p,hp,hc⟩
 ·unfold xok;omega
 ·obtain ⟨n,_,rfl⟩:=List.mem_map.1 hp
  exact xhex_ok n c hc
theorem xa6_ok(l:List Nat):∀c∈xa6 l,xok c:=by
 intro c hc
 unfold xa6 at hc
 split at hc
 ·exact xcol_ok _ c hc
 ·simp only[List.mem_append,List.mem_cons] at hc
  rcases hc with h|rfl|rfl|h
  ·exact xcol_ok _ c h
  ·unfold xok;omega
  ·unfold xok;omega
  ·exact xcol_ok _ c h
theorem xaddr_ok(b s:List Int)(h:xaddr b=some s):∀c∈s,xok c:=by
 unfold xaddr at h
 split at h
 ·injection h with h;subst h
  intro c hc
  rcases xjoin_mem _ _ _ hc with rfl|⟨p,hp,hc⟩
  ·unfold xok;omega
  ·obtain ⟨n,_,rfl⟩:=List.mem_map.1 hp
   have:=xdec_digit _ c hc
   unfold xok;omega
 ·split at h
  ·injection h with h;subst h;exact xa6_ok _
  ·cases h
theorem xaddr_some(b:List Int)(h:b.length=4∨b.length=16):∃s,xaddr b=some s:=by
 unfold xaddr
 split
 ·exact ⟨_,rfl⟩
 ·split
  ·exact ⟨_,rfl⟩
  ·omega
theorem lb_ne(l m:List Int)(hl:∀z∈l,0<=z/\z<=255)(hm:∀z∈m,0<=z/\z<=255)(h:l≠m):lb l≠lb m:=by
 intro e
 apply h
 rw[<- nums_lb l hl,e,nums_lb m hm]
theorem addr_term(s:List Int)(h:∀c∈s,xok c):nums (lb s)=s/\xterm (lb s)=(lb s,false)/\lb s≠lb [92,35]:=by
 have hb:∀z∈s,0<=z/\z<=255:=fun z hz=>by have:=h z hz;unfold xok at this;omega
 refine ⟨nums_lb s hb,xterm_no _ ?_,lb_ne _ _ hb (by decide) ?_⟩
 ·rw[nums_lb s hb]
  intro e
  have:=h 34 (List.mem_of_mem_head? e)
  unfold xok at this;omega
 ·rintro rfl
  have:=h 92 (by simp)
  unfold xok at this;omega
theorem strCells_eq(s:ByteArray):Lib.strCells s=Lib.byteCells s.data.toList:=by
 simp[Lib.strCells,Lib.byteCells]
theorem wstr(B b:Nat)(bs:List Value)(s:ByteArray)(w:World)(h:GS B w b bs)(hB:B<=b)(hs0:0<s.size)(hl:bs.length+s.size<=140737488355328) :
  Calls Tryz.prog 57 #[.pointer (some ⟨b,0,none⟩),.string s] w fun e w'=>e=.returned (.tuple #[.int .i64 s.size,.nilIface])/\Hid (GS B w' b (bs++Lib.byteCells s.data.toList)/\Below B w w'):=by
 have HG:Hid (GS B w b bs):=h
 have hcl:(Lib.byteCells s.data.toList).length=s.size:=by rw[Lib.byteCells_length];rfl
 have HCL:Hid ((Lib.byteCells s.data.toList).length=s.size):=hcl
 clear h hcl
 go_enter Tryz.func57,Tryz.ntmps57
 go_wp2_with fail
 refine (bcheck_any B b bs _ HG.out hB).mono ?_
 rintro e w1 ⟨rfl,H1⟩
 obtain ⟨v,h1,h2,h4⟩:=H1.out.1
 have HB1:Hid (Below B w w1):=H1.out.2
 have HB:Hid (BB w1 b (.pointer (some ⟨b,0,none⟩)) v/\w1.ownsRow B 5 1 v bs.length bs):=⟨h1,h2⟩
 have c1:=h1.c1
 have hlt:=h1.lt
 clear h1 h2 H1 HG
 obtain ⟨i5,hi,hz0,hz1,hz2⟩:=info_parts Tryz.info5
 have HI:Hid (Tryz.prog.info? 5=some i5/\i5.zero=some (.int .u8 0)/\i5.size=1/\i5.bytes=1):=⟨hi,hz0,hz1,hz2⟩
 clear hi hz0 hz1 hz2
 go_wp2_with (at_builtin;refine Lib.wpList_append_own_string _ rfl _ _ 39 9 rfl B 5 i5 Tryz.underlying39 Tryz.underlying9 HI.out.1 HI.out.2.1 HI.out.2.2.1 HI.out.2.2.2 v bs.length bs rfl HB.out.2 s rfl (by simp only[maxLen];omega) (by omega) (by omega) ?_;intro v' w2 hown2 hgr2 hnil;obtain ⟨ao,cc,rfl⟩:=row_shape hown2;have hbk:Hid (w2.heap[b]?=w1.heap[b]?):=(hgr2.block b hlt (fun e=>h4 e.symm));have d1:=(HB.out.1.same hbk.out).c1;have d2:=(HB.out.1.same hbk.out).fz 1;have HG2:Hid (w1.grownBy w2 v.ownBlock/\w2.ownsRow B 5 1 (.slice ao (bs.length+s.size) cc) (bs.length+s.size) (bs++Lib.byteCells s.data.toList)):=⟨hgr2,by rw[<- strCells_eq];exact hown2⟩;clear hown2 hgr2 hnil)
 go_ret2
 have hb2:=HB.out.1.same hbk.out
 have hrow:∀g,v.ownBlock=some g->B<=g:=fun g hg=>(HB.out.2.lt g hg).1
 have hbel:Below B w1 w2:=(Below.refl B w1).grown HG2.out.1 (by omega) hrow
 have hne:(Value.slice ao (bs.length+s.size) cc).ownBlock≠some b:=by
  intro e
  obtain ⟨_,hc|⟨g,cap,cur,hv,_,hg,_⟩⟩:=HG2.out.2
  ·rw[hc.1] at e;simp[Value.ownBlock] at e
  ·rw[hv] at e
   have e2:g=b:=by simpa [Value.ownBlock] using e
   rw[e2] at hg
   have hb3:w2.heap[b]?=_:=hb2
   rw[hb3] at hg
   injection hg with hg
   injection hg with _ hg _
   exact absurd hg (by decide)
 have hn2:bs++Lib.byteCells s.data.toList≠[]:=by
  intro e
  have:=congrArg List.length e
  rw[List.length_append,HCL.out,List.length_nil] at this
  omega
 refine ⟨rfl,.inr ⟨⟨.slice ao (bs.length+s.size) cc,?_,?_,hne⟩,hn2⟩,HB1.out.trans (hbel.setCell hB _)⟩
 ·have:=heap_set hb2 1 (.slice ao (bs.length+s.size) cc)
  simpa [BB] using this
 ·have:=row_set HG2.out.2 hne 1 (.slice ao (bs.length+s.size) cc)
  rw[List.length_append,HCL.out]
  exact this
theorem cells_append(a b:ByteArray):Lib.byteCells (a++b).data.toList=Lib.byteCells a.data.toList++Lib.byteCells b.data.toList:=by
 simp[Lib.byteCells]
theorem tb_pos(s:ByteArray)(h:1<=s.size):0<(tb s).size:=by
 have e:(tb s).size=(tx (nums s)).length:=txt_size _
 have hl:=nums_len s
 rw[e]
 cases hn:nums s with
 |nil=>rw[hn] at hl;simp at hl;omega
 |cons x l=>
  have:=(tx1_len x).2
  simp only[tx,List.flatMap_cons,List.length_append]
  omega
theorem ptext_any(a:Option Addr)(n c:Nat)(ss:List ByteArray)(w:World)(h:Nm w a n ss):Calls Tryz.prog 24 #[.slice a n c] w fun e w'=>e=.returned (.tuple #[.string (ntext ss).1,.int .i64 (ntext ss).2])/\Hid (Below w.heap.size w w'):=by
 have KC:Hid (Calls Tryz.prog 19 #[.slice a n c] w fun e w'=>e=.returned (.int .i64 (nck ss))/\w'=w):=pm_check c h
 have HN:Hid (Nm w a n ss):=h
 have hn:=h.n63
 have HL:Hid (ss.length=n):=h.len
 by_cases hk:nck ss=0
 ·rw[hk] at KC
  have hsm:=(nck_small hk).1
  have HLB:Hid (∀s∈ss,1<=s.size):=fun s hs=>(chk_ok ((nck_small hk).2 s hs)).1
  by_cases h0:n=0
  ·have hp:ntext ss=(⟨#[46]⟩,0):=by unfold ntext;rw[if_pos hk,if_pos (by rw[h.len];exact h0)]
   rw[hp]
   subst h0
   clear h hk hp
   go_enter Tryz.func24,Tryz.ntmps24
   go_wp2_with fail
   refine KC.out.mono ?_
   rintro e w1 ⟨rfl,rfl⟩
   go_wp2
   go_ret2
   exact ⟨rfl,Below.refl _ _⟩
  ·have hp:ntext ss=(ntxt ss,0):=by unfold ntext;rw[if_pos hk,if_neg (by rw[h.len];exact h0)]
   rw[hp]
   have h0':((n:Int) == 0)=false:=by simp;omega
   have HSZ:Hid (∀k,k<=ss.length->(ntxt (ss.take k)).size<=1020):=fun k hk=>by have:=ntxt_size ss k hk;omega
   obtain ⟨R,hR⟩:∃R,ntxt ss=R:=⟨_,rfl⟩
   have HRR:Hid (ntxt ss=R):=hR
   rw[hR]
   clear h hk hp hR
   have H0:Hid (GS w.heap.size (w.alloc (.cells #[.pointer none,.slice none 0 0] 65)) w.heap.size []/\Below w.heap.size w (w.alloc (.cells #[.pointer none,.slice none 0 0] 65))):=⟨GS.fresh w,(Below.refl _ _).alloc (Nat.le_refl _) _⟩
   go_enter Tryz.func24,Tryz.ntmps24
   go_wp2_with fail
   refine KC.out.mono ?_
   rintro e w1 ⟨rfl,rfl⟩
   go_wp2_with fail
   go_loopw [18] (fun x wr=>∃(k:Nat) (t:ByteArray),k<=n/\x=.int .i64 k/\t.size<=1020/\Hid (ntxt (ss.take k)=t)/\Hid (GS w1.heap.size wr w1.heap.size (Lib.byteCells t.data.toList)/\Below w1.heap.size w1 wr)) (fun x _=>n - (intOf x).toNat)
   case atStart=>exact ⟨0,⟨#[]⟩,Nat.zero_le _,rfl,by decide,rfl,H0⟩
   case round=>
    clear H0
    obtain ⟨k,t,hkn,rfl,htz,HT,HB⟩:=hrel
    by_cases hlt:k<n
    ·have hlt':(k:Int)<(n:Int):=by omega
     have hks:k<ss.length:=by rw[HL.out];exact hlt
     obtain ⟨b,o,rfl,hb,hc⟩:=(HN.out.below HB.out.2).rd.at k hks
     have hsz:=Nat.le_trans (nsz_mem ss _ (List.getElem_mem hks)) hsm
     have HT2:Hid (ntxt (ss.take (k+1))=t++tb ss[k]++⟨#[46]⟩):=by show _=_;rw[take_snocT ss k hks,ntxt_snoc,HT.out]
     have hz2:=HSZ.out (k+1) (by omega)
     rw[HT2.out] at hz2
     have KT:Hid (∀W,Calls Tryz.prog 58 #[.string ss[k]] W fun e w'=>e=.returned (.string (tb ss[k]))/\Hid (Below W.heap.size W w')):=fun W=>text_any ss[k] W (by omega)
     have htb:(tb ss[k]).size<=1020:=by have:=tb_size ss[k];omega
     have htp:0<(tb ss[k]).size:=tb_pos _ (HLB.out _ (List.getElem_mem hks))
     generalize tb ss[k]=f at*
     generalize ss[k]=s at*
     have KW1:Hid (∀W,GS w1.heap.size W w1.heap.size (Lib.byteCells t.data.toList)->Calls Tryz.prog 57 #[.pointer (some ⟨w1.heap.size,0,none⟩),.string f] W fun e w'=>e=.returned (.tuple #[.int .i64 f.size,.nilIface])/\Hid (GS w1.heap.size w' w1.heap.size (Lib.byteCells (t++f).data.toList)/\Below w1.heap.size W w')):=fun W hW=>by
      have:=wstr w1.heap.size w1.heap.size _ f W hW (Nat.le_refl _) htp (by rw[Lib.byteCells_length];have:t.data.toList.length=t.size:=rfl;omega)
      rw[<- cells_append] at this
      exact this
     have KW2:Hid (∀W,GS w1.heap.size W w1.heap.size (Lib.byteCells (t++f).data.toList)->Calls Tryz.prog 57 #[.pointer (some ⟨w1.heap.size,0,none⟩),.string ⟨#[46]⟩] W fun e w'=>e=.returned (.tuple #[.int .i64 1,.nilIface])/\Hid (GS w1.heap.size w' w1.heap.size (Lib.byteCells (t++f++⟨#[46]⟩).data.toList)/\Below w1.heap.size W w')):=fun W hW=>by
      have:=wstr w1.heap.size w1.heap.size _ ⟨#[46]⟩ W hW (Nat.le_refl _) (by decide) (by rw[Lib.byteCells_length];have:(t++f).data.toList.length=(t++f).size:=rfl;rw[this,ByteArray.size_append];show _+1<=_;omega)
      rw[<- cells_append] at this
      exact this
     go_wp2_with fail
     refine (KT.out _).mono ?_
     rintro e w2 ⟨rfl,H2⟩
     have HG2:Hid (GS w1.heap.size w2 w1.heap.size (Lib.byteCells t.data.toList)/\Below w1.heap.size w1 w2):=by
      refine ⟨?_,HB.out.2.trans (H2.out.mono HB.out.2.size)⟩
      rcases HB.out.1 with ⟨g1,g2⟩|⟨⟨v,g1,g2,g3⟩,g4⟩
      ·exact .inl ⟨g1.same (H2.out.block _ g1.lt),g2⟩
      ·exact .inr ⟨⟨v,g1.same (H2.out.block _ g1.lt),g2.kept (row:=none) ⟨H2.out.os,H2.out.tape,H2.out.output,H2.out.size,fun k hk _=>H2.out.block k hk⟩ (by rcases hv:v.ownBlock with _|g;exact .inl rfl;exact .inr (by simp)),g3⟩,g4⟩
     clear hc KT HB H2
     go_wp2_with fail
     refine (KW1.out _ HG2.out.1).mono ?_
     rintro e w3 ⟨rfl,H3⟩
     go_wp2_with fail
     refine (KW2.out _ H3.out.1).mono ?_
     rintro e w4 ⟨rfl,H4⟩
     go_wp2
     refine ⟨⟨k+1,_,by omega,by go_num,hz2,HT2,H4.out.1,(HG2.out.2.trans H3.out.2).trans H4.out.2⟩,by simp[intOf];omega⟩
    ·have hge:(n:Int)<=(k:Int):=by omega
     have e:t=R:=by rw[<- HT.out,<- HRR.out,List.take_of_length_le (by rw[HL.out];omega)]
     subst e
     go_wp2_with fail
     refine (wstring w1.heap.size w1.heap.size t.data.toList _ HB.out.1 (by have:t.data.toList.length=t.size:=rfl;omega)).mono ?_
     rintro e w2 ⟨rfl,H2⟩
     go_wp2
     go_ret2
     exact ⟨rfl,HB.out.2.trans H2.out⟩
 ·have hp:ntext ss=(⟨#[]⟩,nck ss):=by unfold ntext;rw[if_neg hk]
  rw[hp]
  generalize nck ss=q at*
  have hq:(q != 0)=true:=bne_iff_ne.2 hk
  clear h hk hp
  go_enter Tryz.func24,Tryz.ntmps24
  go_wp2_with fail
  refine KC.out.mono ?_
  rintro e w1 ⟨rfl,rfl⟩
  go_wp2
  go_ret2
  exact ⟨rfl,Below.refl _ _⟩
end Go.Proofs.YtoppdmlmhigogaaGreatDoor
namespace Go.Proofs.YtoppdmlmhigogaaGreatDoor
open Go.ChangeShapes Go.WideShapes Go.ChangeAt Go.RowKit Go.Deep
structure Sl where
 a:Option Addr
 n:Nat
 c:Nat
def uv(us:List Nat):List Value:=us.map fun (n:Nat)=>Value.int .u32 (n:Int)
theorem uv_len(us:List Nat):(uv us).length=us.length:=by simp[uv]
structure TRd(w:World)(s:Sl)(ss:List ByteArray):Prop where
 rd:RdT w s.a ss
 len:ss.length=s.n
 cap:s.n<=s.c/\s.c<=9223372036854775807
 nil:s.a=none->s.c=0
 z63:∀x∈ss,x.size<=9223372036854775807
theorem TRd.below{w w':World}{s:Sl}{ss:List ByteArray}(h:TRd w s ss)(hb:Below w.heap.size w w'):TRd w' s ss:=⟨h.rd.below hb,h.len,h.cap,h.nil,h.z63⟩
structure NRd(w:World)(s:Sl)(nss:List (List ByteArray)):Prop where
 rd:nss=[]∨∃b o,s.a=some ⟨b,o,none⟩/\b<w.heap.size/\∀i (h:i<nss.length),∃x:Sl,w.cell? ⟨b,o+i,none⟩=some (.slice x.a x.n x.c)/\TRd w x nss[i]
 len:nss.length=s.n
 cap:s.n<=s.c/\s.c<=9223372036854775807
 nil:s.a=none->s.c=0
theorem NRd.below{w w':World}{s:Sl}{nss:List (List ByteArray)}(h:NRd w s nss)(hb:Below w.heap.size w w'):NRd w' s nss:=by
 refine ⟨?_,h.len,h.cap,h.nil⟩
 rcases h.rd with h1|⟨b,o,h1,h2,h3⟩
 ·exact .inl h1
 ·refine .inr ⟨b,o,h1,Nat.lt_of_lt_of_le h2 hb.size,fun i hi=>?_⟩
  obtain ⟨x,h4,h5⟩:=h3 i hi
  exact ⟨x,(hb.cell (p:=⟨b,o+i,none⟩) h2).trans h4,h5.below hb⟩
theorem NRd.at{w:World}{s:Sl}{nss:List (List ByteArray)}(h:NRd w s nss)(i:Nat)(hi:i<nss.length):∃b o,s.a=some ⟨b,o,none⟩/\b<w.heap.size/\∃x:Sl,w.cell? ⟨b,o+i,none⟩=some (.slice x.a x.n x.c)/\TRd w x nss[i]:=by
 rcases h.rd with h1|⟨b,o,h1,h2,h3⟩
 ·subst h1;simp at hi
 ·exact ⟨b,o,h1,h2,h3 i hi⟩
structure URd(w:World)(s:Sl)(us:List Nat):Prop where
 rd:RdV w s.a (uv us)
 len:us.length=s.n
 cap:s.n<=s.c/\s.c<=9223372036854775807
 nil:s.a=none->s.c=0
 bd:∀x∈us,x<=4294967295
theorem URd.below{w w':World}{s:Sl}{us:List Nat}(h:URd w s us)(hb:Below w.heap.size w w'):URd w' s us:=⟨h.rd.below hb,h.len,h.cap,h.nil,h.bd⟩
theorem URd.at{w:World}{s:Sl}{us:List Nat}(h:URd w s us)(i:Nat)(hi:i<us.length):∃b o,s.a=some ⟨b,o,none⟩/\b<w.heap.size/\w.cell? ⟨b,o+i,none⟩=some (.int .u32 (us[i]:Int)):=by
 rcases h.rd with h1|⟨b,o,h1,h2,h3⟩
 ·have:=congrArg List.length h1
  rw[uv_len] at this
  simp at this
  subst this
  simp at hi
 ·refine ⟨b,o,h1,h2,?_⟩
  rw[h3 i (by rw[uv_len];exact hi)]
  simp[uv]
structure BRd(w:World)(s:Sl)(zs:List Int):Prop where
 rd:Rd w s.a zs
 len:zs.length=s.n
 cap:s.n<=s.c/\s.c<=9223372036854775807
 nil:s.a=none->s.c=0
theorem BRd.below{w w':World}{s:Sl}{zs:List Int}(h:BRd w s zs)(hb:Below w.heap.size w w'):BRd w' s zs:=⟨h.rd.below hb,h.len,h.cap,h.nil⟩
structure DA where
 p1:Sl
 p2:Sl
 p3:Sl
 p4:Sl
structure DRd(w:World)(x:DA)(d:Dat):Prop where
 h1:NRd w x.p1 d.ns
 h2:URd w x.p2 d.us
 h3:TRd w x.p3 d.ts
 h4:BRd w x.p4 d.raw
theorem DRd.below{w w':World}{x:DA}{d:Dat}(h:DRd w x d)(hb:Below w.heap.size w w'):DRd w' x d:=⟨h.h1.below hb,h.h2.below hb,h.h3.below hb,h.h4.below hb⟩
variable {H:Type} {enc:TypeId × Value->H} {W:World}
theorem open_texts{t:TypeId}(ht:Tryz.prog.underlying t=some (.slice 9)){a:Option Addr}{len cap fuel:Nat}{x:DataW H × List MemPlace}(hf:DataW.trod enc Tryz.prog W 0 (fun _=>true) true fuel t [Value.slice a len cap]=some x):∃ss,TRd W ⟨a,len,cap⟩ ss:=by
 rcases open_strs ht Tryz.underlying9 (by kernel_rfl) hf with ⟨hcs,hx⟩|⟨x,l,c,m,S,hcs,_,hl,hm,hmm,hx,hcell⟩
 ·simp at hcs
  obtain ⟨rfl,rfl,rfl⟩:=hcs
  exact ⟨[],.inl rfl,rfl,⟨Nat.le_refl _,Nat.zero_le _⟩,fun _=>rfl,by simp⟩
 ·simp at hcs
  obtain ⟨rfl,rfl,rfl⟩:=hcs
  have hmc:m=cap:=by simpa using hmm
  refine ⟨(List.range len).map S,?_,by simp,⟨hl,by simp only[maxLen] at hm;exact hm⟩,by simp,?_⟩
  ·by_cases h0:len=0
   ·left;rw[h0];rfl
   ·right
    obtain ⟨b,off,spot⟩:=x
    have hc0:=(hcell 0 (by omega)).1
    have hspot:spot=none:=by simpa [Addr.add] using World.cell?_spot hc0
    subst hspot
    have hlt:b<W.heap.size:=by
     have:=World.block_lt_of_cell? W _ hc0
     simpa [Addr.add] using this
    refine ⟨b,off,rfl,hlt,fun i hi=>?_⟩
    have hi':i<len:=by simpa [tv] using hi
    have:=(hcell i (by omega)).1
    rw[Addr.add_lit] at this
    rw[this]
    simp[tv]
  ·intro s hs
   simp only[List.mem_map,List.mem_range] at hs
   obtain ⟨i,hi,rfl⟩:=hs
   have:=(hcell i (by omega)).2
   simp only[maxLen] at this
   exact this
variable {H:Type} {enc:TypeId × Value->H} {W:World}
end Go.Proofs.YtoppdmlmhigogaaGreatDoor
namespace Go.Proofs.YtoppdmlmhigogaaGreatDoor
open Go.ChangeShapes Go.WideShapes Go.ChangeAt Go.RowKit
def DBox(w:World)(b:Nat)(x:DA):Prop:=
 w.cell? ⟨b,0,none⟩=some (.slice x.p1.a x.p1.n x.p1.c)/\w.cell? ⟨b,1,none⟩=some (.slice x.p2.a x.p2.n x.p2.c)/\w.cell? ⟨b,2,none⟩=some (.slice x.p3.a x.p3.n x.p3.c)/\w.cell? ⟨b,3,none⟩=some (.slice x.p4.a x.p4.n x.p4.c)/\b<w.heap.size
theorem DBox.new(w:World)(x:DA):DBox (w.alloc (.cells #[.slice x.p1.a x.p1.n x.p1.c,.slice x.p2.a x.p2.n x.p2.c,.slice x.p3.a x.p3.n x.p3.c,.slice x.p4.a x.p4.n x.p4.c] 41)) w.heap.size x:=by
 refine ⟨?_,?_,?_,?_,by simp⟩ <;> (unfold World.cell?;rw[heap_alloc_new];rfl)
theorem DBox.below{w w':World}{b:Nat}{x:DA}(h:DBox w b x)(hb:Below w.heap.size w w'):DBox w' b x:=
 ⟨(hb.cell (p:=⟨b,0,none⟩) h.2.2.2.2).trans h.1,(hb.cell (p:=⟨b,1,none⟩) h.2.2.2.2).trans h.2.1,(hb.cell (p:=⟨b,2,none⟩) h.2.2.2.2).trans h.2.2.1,(hb.cell (p:=⟨b,3,none⟩) h.2.2.2.2).trans h.2.2.2.1,Nat.lt_of_lt_of_le h.2.2.2.2 hb.size⟩
structure Fs where
 nn:Nat
 nf:Nat
 nu:Nat
 wd:Nat
 nt:Int
 tg:Nat
 tl:Nat
 nr:Int
def fs(t:Nat):Fs:=
 if t=1 then ⟨0,0,0,0,0,0,0,4⟩ else if t=28 then ⟨0,0,0,0,0,0,0,16⟩ else if t=2∨t=5∨t=12 then ⟨1,0,0,0,0,0,0,0⟩ else if t=6 then ⟨2,2,5,4,0,0,0,0⟩ else
 if t=15 then ⟨1,0,1,2,0,0,0,0⟩ else if t=33 then ⟨1,0,3,2,0,0,0,0⟩ else if t=16 then ⟨0,0,0,0,-1,0,0,0⟩ else if t=257 then ⟨0,0,1,1,2,1,1,0⟩ else ⟨0,0,0,0,0,0,0,-2⟩
theorem fs_cases(t:Nat):(t=1/\fs t=⟨0,0,0,0,0,0,0,4⟩)∨(t=28/\fs t=⟨0,0,0,0,0,0,0,16⟩)∨((t=2∨t=5∨t=12)/\fs t=⟨1,0,0,0,0,0,0,0⟩)∨(t=6/\fs t=⟨2,2,5,4,0,0,0,0⟩) ∨
  (t=15/\fs t=⟨1,0,1,2,0,0,0,0⟩)∨(t=33/\fs t=⟨1,0,3,2,0,0,0,0⟩)∨(t=16/\fs t=⟨0,0,0,0,-1,0,0,0⟩)∨(t=257/\fs t=⟨0,0,1,1,2,1,1,0⟩) ∨
  ((t≠1/\t≠28/\t≠2/\t≠5/\t≠12/\t≠6/\t≠15/\t≠33/\t≠16/\t≠257)/\fs t=⟨0,0,0,0,0,0,0,-2⟩):=by
 unfold fs
 by_cases h1:t=1
 ·simp[h1]
 by_cases h2:t=28
 ·simp[h2]
 by_cases h3:t=2∨t=5∨t=12
 ·rcases h3 with h|h|h <;> simp[h]
 by_cases h4:t=6
 ·simp[h4]
 by_cases h5:t=15
 ·simp[h5]
 by_cases h6:t=33
 ·simp[h6]
 by_cases h7:t=16
 ·simp[h7]
 by_cases h8:t=257
 ·simp[h8]
 ·rw[if_neg h1,if_neg h2,if_neg h3,if_neg h4,if_neg h5,if_neg h6,if_neg h7,if_neg h8]
  simp only[not_or] at h3
  exact .inr (.inr (.inr (.inr (.inr (.inr (.inr (.inr ⟨⟨h1,h2,h3.1,h3.2.1,h3.2.2,h4,h5,h6,h7,h8⟩,rfl⟩)))))))
theorem fieldsof_any(t:Nat)(w:World):Calls Tryz.prog 100 #[.int .u16 t] w fun e w'=>e=.returned (.agg #[.int .i64 (fs t).nn,.int .i64 (fs t).nf,.int .i64 (fs t).nu,.int .i64 (fs t).wd,.int .i64 (fs t).nt,.int .i64 (fs t).tg,.int .i64 (fs t).tl,.int .i64 (fs t).nr])/\Hid (Below w.heap.size w w'):=by
 rcases fs_cases t with ⟨ht,e⟩|⟨ht,e⟩|⟨ht,e⟩|⟨ht,e⟩|⟨ht,e⟩|⟨ht,e⟩|⟨ht,e⟩|⟨ht,e⟩|⟨ht,e⟩
 ·subst ht;rw[e];clear e
  go_enter Tryz.func100,Tryz.ntmps100
  go_wp2_with fail
  exact bodyPost_ret (v:=.agg #[.int .i64 0,.int .i64 0,.int .i64 0,.int .i64 0,.int .i64 0,.int .i64 0,.int .i64 0,.int .i64 4]) (by simp[results,Tryz.results100,go_sem]) rfl ⟨rfl,(Below.refl _ _).alloc (Nat.le_refl _) _⟩
 ·subst ht;rw[e];clear e
  go_enter Tryz.func100,Tryz.ntmps100
  go_wp2_with fail
  exact bodyPost_ret (v:=.agg #[.int .i64 0,.int .i64 0,.int .i64 0,.int .i64 0,.int .i64 0,.int .i64 0,.int .i64 0,.int .i64 16]) (by simp[results,Tryz.results100,go_sem]) rfl ⟨rfl,(Below.refl _ _).alloc (Nat.le_refl _) _⟩
 ·rw[e];clear e
  rcases ht with rfl|rfl|rfl
  all_goals
   go_enter Tryz.func100,Tryz.ntmps100
   go_wp2_with fail
   exact bodyPost_ret (v:=.agg #[.int .i64 1,.int .i64 0,.int .i64 0,.int .i64 0,.int .i64 0,.int .i64 0,.int .i64 0,.int .i64 0]) (by simp[results,Tryz.results100,go_sem]) rfl ⟨rfl,(Below.refl _ _).alloc (Nat.le_refl _) _⟩
 ·subst ht;rw[e];clear e
  go_enter Tryz.func100,Tryz.ntmps100
  go_wp2_with fail
  exact bodyPost_ret (v:=.agg #[.int .i64 2,.int .i64 2,.int .i64 5,.int .i64 4,.int .i64 0,.int .i64 0,.int .i64 0,.int .i64 0]) (by simp[results,Tryz.results100,go_sem]) rfl ⟨rfl,(Below.refl _ _).alloc (Nat.le_refl _) _⟩
 ·subst ht;rw[e];clear e
  go_enter Tryz.func100,Tryz.ntmps100
  go_wp2_with fail
  exact bodyPost_ret (v:=.agg #[.int .i64 1,.int .i64 0,.int .i64 1,.int .i64 2,.int .i64 0,.int .i64 0,.int .i64 0,.int .i64 0]) (by simp[results,Tryz.results100,go_sem]) rfl ⟨rfl,(Below.refl _ _).alloc (Nat.le_refl _) _⟩
 ·subst ht;rw[e];clear e
  go_enter Tryz.func100,Tryz.ntmps100
  go_wp2_with fail
  exact bodyPost_ret (v:=.agg #[.int .i64 1,.int .i64 0,.int .i64 3,.int .i64 2,.int .i64 0,.int .i64 0,.int .i64 0,.int .i64 0]) (by simp[results,Tryz.results100,go_sem]) rfl ⟨rfl,(Below.refl _ _).alloc (Nat.le_refl _) _⟩
 ·subst ht;rw[e];clear e
  go_enter Tryz.func100,Tryz.ntmps100
  go_wp2_with fail
  exact bodyPost_ret (v:=.agg #[.int .i64 0,.int .i64 0,.int .i64 0,.int .i64 0,.int .i64 (-1),.int .i64 0,.int .i64 0,.int .i64 0]) (by simp[results,Tryz.results100,go_sem]) rfl ⟨rfl,(Below.refl _ _).alloc (Nat.le_refl _) _⟩
 ·subst ht;rw[e];clear e
  go_enter Tryz.func100,Tryz.ntmps100
  go_wp2_with fail
  exact bodyPost_ret (v:=.agg #[.int .i64 0,.int .i64 0,.int .i64 1,.int .i64 1,.int .i64 2,.int .i64 1,.int .i64 1,.int .i64 0]) (by simp[results,Tryz.results100,go_sem]) rfl ⟨rfl,(Below.refl _ _).alloc (Nat.le_refl _) _⟩
 ·rw[e];clear e
  obtain ⟨h1,h2,h3,h4,h5,h6,h7,h8,h9,h10⟩:=ht
  have q1:((t:Int) == 1)=false:=by simp;omega
  have q2:((t:Int) == 28)=false:=by simp;omega
  have q3:((t:Int) == 2)=false:=by simp;omega
  have q4:((t:Int) == 5)=false:=by simp;omega
  have q5:((t:Int) == 12)=false:=by simp;omega
  have q6:((t:Int) == 6)=false:=by simp;omega
  have q7:((t:Int) == 15)=false:=by simp;omega
  have q8:((t:Int) == 33)=false:=by simp;omega
  have q9:((t:Int) == 16)=false:=by simp;omega
  have q10:((t:Int) == 257)=false:=by simp;omega
  clear h1 h2 h3 h4 h5 h6 h7 h8 h9 h10
  go_enter Tryz.func100,Tryz.ntmps100
  go_wp2_with fail
  exact bodyPost_ret (v:=.agg #[.int .i64 0,.int .i64 0,.int .i64 0,.int .i64 0,.int .i64 0,.int .i64 0,.int .i64 0,.int .i64 (-2)]) (by simp[results,Tryz.results100,go_sem]) rfl ⟨rfl,(Below.refl _ _).alloc (Nat.le_refl _) _⟩
theorem asked_any(t:Int)(w:World):Calls Tryz.prog 98 #[.int .u16 t] w fun e w'=>e=.returned (.bool (decide (128<=t) && decide (t<=255)))/\w'=w:=by
 go_enter Tryz.func98,Tryz.ntmps98
 go_wp2
 all_goals
  go_ret
  refine ⟨ret_bool ?_,rfl⟩
  simp_all
  try omega
theorem hasdata_any(t:Nat)(w:World):Calls Tryz.prog 99 #[.int .u16 t] w fun e w'=>e=.returned (.bool (mayT t))/\w'=w:=by
 have HS:Hid (∀W,Calls Tryz.prog 62 #[.int .u16 t] W fun e w'=>e=.returned (.bool (decide (t≠0) && decide (t≠41) && (decide (t<128) || decide (255<t))))/\w'=W):=by
  intro W
  go_enter Tryz.func62,Tryz.ntmps62
  by_cases h0:t=0
  ·subst h0
   go_wp2_with fail
   go_ret
   exact ⟨ret_bool (by decide),rfl⟩
  ·by_cases h1:t=41
   ·subst h1
    go_wp2_with fail
    go_ret
    exact ⟨ret_bool (by decide),rfl⟩
   ·have q0:((t:Int) == 0)=false:=by simp;omega
    have q1:((t:Int) == 41)=false:=by simp;omega
    go_wp2_with fail
    refine (asked_any t _).mono ?_
    rintro e W ⟨rfl,rfl⟩
    go_wp2_with fail
    go_ret
    refine ⟨ret_bool ?_,rfl⟩
    simp[h0,h1]
    by_cases h2:t<128
    ·simp[h2];omega
    ·by_cases h3:255<t
     ·simp[h3];omega
     ·simp[h2,h3];omega
 go_enter Tryz.func99,Tryz.ntmps99
 by_cases h1:t=41
 ·subst h1
  go_wp2_with fail
  refine (HS.out _).mono ?_
  rintro e W ⟨rfl,rfl⟩
  go_wp2_with fail
  go_ret
  exact ⟨rfl,rfl⟩
 ·have q1:((t:Int) == 41)=false:=by simp;omega
  go_wp2_with fail
  refine (HS.out _).mono ?_
  rintro e W ⟨rfl,rfl⟩
  have hm:(decide (t≠0) && decide (t≠41) && (decide (t<128) || decide (255<t)))=mayT t:=by simp[mayT,h1]
  rw[hm]
  cases hmt:mayT t
  all_goals
   go_wp2_with fail
   go_ret
   exact ⟨ret_bool (by rw[hmt]),rfl⟩
def fitB(n:Nat)(c:Int):Bool:=if c = -1 then decide (0<n) else if c = -2 then true else decide ((n:Int)=c)
theorem pfits_any(n:Nat)(c:Int)(w:World):Calls Tryz.prog 137 #[.int .i64 n,.int .i64 c] w fun e w'=>e=.returned (.bool (fitB n c))/\w'=w:=by
 unfold fitB
 by_cases h1:c = -1
 ·subst h1
  rw[if_pos rfl]
  go_enter Tryz.func137,Tryz.ntmps137
  go_wp2_with fail
  go_ret
  exact ⟨ret_bool (by simp),rfl⟩
 rw[if_neg h1]
 have q1:(c == -1)=false:=by simp[h1]
 by_cases h2:c = -2
 ·subst h2
  rw[if_pos rfl]
  go_enter Tryz.func137,Tryz.ntmps137
  go_wp2_with fail
  go_ret
  exact ⟨rfl,rfl⟩
 rw[if_neg h2]
 have q2:(c == -2)=false:=by simp[h2]
 go_enter Tryz.func137,Tryz.ntmps137
 go_wp2_with fail
 go_ret
 exact ⟨ret_bool (by by_cases h:(n:Int)=c <;> simp[h]),rfl⟩
def FBox(w:World)(b:Nat)(f:Fs):Prop:=
 w.cell? ⟨b,0,none⟩=some (.int .i64 f.nn)/\w.cell? ⟨b,1,none⟩=some (.int .i64 f.nf)/\w.cell? ⟨b,2,none⟩=some (.int .i64 f.nu)/\w.cell? ⟨b,3,none⟩=some (.int .i64 f.wd)/\w.cell? ⟨b,4,none⟩=some (.int .i64 f.nt)/\w.cell? ⟨b,5,none⟩=some (.int .i64 f.tg)/\w.cell? ⟨b,6,none⟩=some (.int .i64 f.tl)/\w.cell? ⟨b,7,none⟩=some (.int .i64 f.nr)/\b<w.heap.size
theorem FBox.new(w:World)(f:Fs):FBox (w.alloc (.cells #[.int .i64 f.nn,.int .i64 f.nf,.int .i64 f.nu,.int .i64 f.wd,.int .i64 f.nt,.int .i64 f.tg,.int .i64 f.tl,.int .i64 f.nr] 146)) w.heap.size f:=by
 refine ⟨?_,?_,?_,?_,?_,?_,?_,?_,by simp⟩ <;> (unfold World.cell?;rw[heap_alloc_new];rfl)
theorem FBox.below{w w':World}{b:Nat}{f:Fs}(h:FBox w b f)(hb:Below w.heap.size w w'):FBox w' b f:=by
 obtain ⟨h0,h1,h2,h3,h4,h5,h6,h7,hl⟩:=h
 exact ⟨(hb.cell (p:=⟨b,0,none⟩) hl).trans h0,(hb.cell (p:=⟨b,1,none⟩) hl).trans h1,(hb.cell (p:=⟨b,2,none⟩) hl).trans h2,(hb.cell (p:=⟨b,3,none⟩) hl).trans h3,(hb.cell (p:=⟨b,4,none⟩) hl).trans h4,(hb.cell (p:=⟨b,5,none⟩) hl).trans h5,(hb.cell (p:=⟨b,6,none⟩) hl).trans h6,(hb.cell (p:=⟨b,7,none⟩) hl).trans h7,Nat.lt_of_lt_of_le hl hb.size⟩
def PtSt(w W:World)(b:Nat)(f:Fs)(x:DA)(d:Dat):Prop:=FBox W b f/\DBox W (b+1) x/\DRd W x d/\Below w.heap.size w W
theorem PtSt.new(w:World)(f:Fs)(x:DA)(d:Dat)(h:DRd w x d):PtSt w ((w.alloc (.cells #[.int .i64 f.nn,.int .i64 f.nf,.int .i64 f.nu,.int .i64 f.wd,.int .i64 f.nt,.int .i64 f.tg,.int .i64 f.tl,.int .i64 f.nr] 146)).alloc (.cells #[.slice x.p1.a x.p1.n x.p1.c,.slice x.p2.a x.p2.n x.p2.c,.slice x.p3.a x.p3.n x.p3.c,.slice x.p4.a x.p4.n x.p4.c] 41)) w.heap.size f x d:=by
 have hb1:Below w.heap.size w (w.alloc (.cells #[.int .i64 f.nn,.int .i64 f.nf,.int .i64 f.nu,.int .i64 f.wd,.int .i64 f.nt,.int .i64 f.tg,.int .i64 f.tl,.int .i64 f.nr] 146)):=(Below.refl _ _).alloc (Nat.le_refl _) _
 have HX:=FBox.new w f
 have hx1:=h.below hb1
 obtain ⟨W0,hW0⟩:∃W,W=w.alloc (.cells #[.int .i64 f.nn,.int .i64 f.nf,.int .i64 f.nu,.int .i64 f.wd,.int .i64 f.nt,.int .i64 f.tg,.int .i64 f.tl,.int .i64 f.nr] 146):=⟨_,rfl⟩
 have hs0:W0.heap.size=w.heap.size+1:=by rw[hW0];simp
 rw[<- hW0] at hb1 HX hx1 ⊢
 have hb2:Below W0.heap.size W0 (W0.alloc (.cells #[.slice x.p1.a x.p1.n x.p1.c,.slice x.p2.a x.p2.n x.p2.c,.slice x.p3.a x.p3.n x.p3.c,.slice x.p4.a x.p4.n x.p4.c] 41)):=(Below.refl _ _).alloc (Nat.le_refl _) _
 have HY:=DBox.new W0 x
 rw[hs0] at HY
 exact ⟨HX.below hb2,HY,hx1.below hb2,hb1.trans (hb2.mono hb1.size)⟩
def cntB(f:Fs)(d:Dat):Bool:=fitB d.ns.length f.nn && fitB d.us.length f.nu && fitB d.ts.length f.nt && fitB d.raw.length f.nr
theorem counted_any(f:Fs)(x:DA)(d:Dat)(w:World)(h:DRd w x d) :
  Calls Tryz.prog 101 #[.agg #[.int .i64 f.nn,.int .i64 f.nf,.int .i64 f.nu,.int .i64 f.wd,.int .i64 f.nt,.int .i64 f.tg,.int .i64 f.tl,.int .i64 f.nr],.agg #[.slice x.p1.a x.p1.n x.p1.c,.slice x.p2.a x.p2.n x.p2.c,.slice x.p3.a x.p3.n x.p3.c,.slice x.p4.a x.p4.n x.p4.c]] w fun e w'=>e=.returned (.bool (cntB f d))/\Hid (Below w.heap.size w w'):=by
 have H:Hid (PtSt w ((w.alloc (.cells #[.int .i64 f.nn,.int .i64 f.nf,.int .i64 f.nu,.int .i64 f.wd,.int .i64 f.nt,.int .i64 f.tg,.int .i64 f.tl,.int .i64 f.nr] 146)).alloc (.cells #[.slice x.p1.a x.p1.n x.p1.c,.slice x.p2.a x.p2.n x.p2.c,.slice x.p3.a x.p3.n x.p3.c,.slice x.p4.a x.p4.n x.p4.c] 41)) w.heap.size f x d):=PtSt.new w f x d h
 have l1:=h.h1.len
 have l2:=h.h2.len
 have l3:=h.h3.len
 have l4:=h.h4.len
 clear h
 unfold cntB
 rw[l1,l2,l3,l4]
 clear l1 l2 l3 l4
 obtain ⟨nn,nf,nu,wd,nt,tg,tl,nr⟩:=f
 obtain ⟨⟨a1,n1,k1⟩,⟨a2,n2,k2⟩,⟨a3,n3,k3⟩,⟨a4,n4,k4⟩⟩:=x
 simp only at H ⊢
 go_enter Tryz.func101,Tryz.ntmps101
 go_upto_region 1 with fail
 generalize ((w.alloc (.cells #[.int .i64 nn,.int .i64 nf,.int .i64 nu,.int .i64 wd,.int .i64 nt,.int .i64 tg,.int .i64 tl,.int .i64 nr] 146)).alloc (.cells #[.slice a1 n1 k1,.slice a2 n2 k2,.slice a3 n3 k3,.slice a4 n4 k4] 41))=W1 at*
 have s0:=H.out.1.1
 have s2:=H.out.1.2.2.1
 have s4:=H.out.1.2.2.2.2.1
 have s7:=H.out.1.2.2.2.2.2.2.2.1
 have c0:=H.out.2.1.1
 have c1:=H.out.2.1.2.1
 have c2:=H.out.2.1.2.2.1
 have c3:=H.out.2.1.2.2.2.1
 simp only at s0 s2 s4 s7 c0 c1 c2 c3
 go_wp2_with fail
 refine (pfits_any n1 nn _).mono ?_
 rintro e W ⟨rfl,rfl⟩
 cases hfn1:fitB n1 nn with
 |false=>
  go_wp2_with fail
  go_ret
  exact ⟨ret_bool (by simp[*]),H.out.2.2.2⟩
 |true=>
  go_wp2_with fail
  refine (pfits_any n2 nu _).mono ?_
  rintro e W ⟨rfl,rfl⟩
  cases hfn2:fitB n2 nu with
  |false=>
   go_wp2_with fail
   go_ret
   exact ⟨ret_bool (by simp[*]),H.out.2.2.2⟩
  |true=>
   go_wp2_with fail
   refine (pfits_any n3 nt _).mono ?_
   rintro e W ⟨rfl,rfl⟩
   cases hfn3:fitB n3 nt with
   |false=>
    go_wp2_with fail
    go_ret
    exact ⟨ret_bool (by simp[*]),H.out.2.2.2⟩
   |true=>
    go_wp2_with fail
    refine (pfits_any n4 nr _).mono ?_
    rintro e W ⟨rfl,rfl⟩
    go_wp2_with fail
    go_ret
    exact ⟨ret_bool (by simp[*]),H.out.2.2.2⟩
theorem call166(s:ByteArray)(c:Int)(w:World):(callFunc 166 #[.string s,.int .u8 c]).run Tryz.prog w=.ok (.value (.int .i64 (Lib.indexByte s.data.toList c.toNat.toUInt8))) w:=by
 rw[run_callFunc_extern Tryz.func166 (by kernel_rfl) (by kernel_rfl) (by kernel_rfl) (by kernel_rfl) _ w]
 show ((Extern.BytealgIndexByte.indexByte #[.string s,.int .u8 c]).run Tryz.prog w).andThen _=_
 rw[Lib.run_indexByteString]
 rfl
theorem sidx_any(s:ByteArray)(c:Int)(w:World):Calls Tryz.prog 129 #[.string s,.int .u8 c] w fun e w'=>e=.returned (.int .i64 (Lib.indexByte s.data.toList c.toNat.toUInt8))/\w'=w:=by
 have h:=call166 s c
 go_enter Tryz.func129,Tryz.ntmps129
 go_wp2
 go_ret
 exact ⟨rfl,rfl⟩
theorem idx_any(s:ByteArray)(c:Int)(w:World):Calls Tryz.prog 172 #[.string s,.int .u8 c] w fun e w'=>e=.returned (.int .i64 (Lib.indexByte s.data.toList c.toNat.toUInt8))/\w'=w:=by
 go_enter Tryz.func172,Tryz.ntmps172
 go_wp2_with fail
 refine (sidx_any s c _).mono ?_
 rintro e w1 ⟨rfl,rfl⟩
 go_wp2
 go_ret
 exact ⟨rfl,rfl⟩
def tagged:List UInt8:=[97,98,99,100,101,102,103,104,105,106,107,108,109,110,111,112,113,114,115,116,117,118,119,120,121,122,65,66,67,68,69,70,71,72,73,74,75,76,77,78,79,80,81,82,83,84,85,86,87,88,89,90,48,49,50,51,52,53,54,55,56,57]
theorem tagged_idx:∀n:Fin 256,decide (Lib.indexByte tagged n.val.toUInt8<0)=!alnum (n.val:Int):=by decide +kernel
theorem idx_tag(c:Int)(h0:0<=c)(h1:c<=255)(w:World):Calls Tryz.prog 172 #[.string { data:=#[97,98,99,100,101,102,103,104,105,106,107,108,109,110,111,112,113,114,115,116,117,118,119,120,121,122,65,66,67,68,69,70,71,72,73,74,75,76,77,78,79,80,81,82,83,84,85,86,87,88,89,90,48,49,50,51,52,53,54,55,56,57] },.int .u8 c] w fun e w'=>∃k,e=.returned (.int .i64 k)/\Hid (decide (k<0)=!alnum c)/\w'=w:=by
 refine (idx_any _ c w).mono ?_
 rintro e w1 ⟨rfl,rfl⟩
 refine ⟨_,rfl,?_,rfl⟩
 have:=tagged_idx ⟨c.toNat,by omega⟩
 simp only at this
 rw[Int.toNat_of_nonneg h0] at this
 exact this
theorem istag_any(s:ByteArray)(hs:s.size<=9223372036854775807)(w:World):Calls Tryz.prog 138 #[.string s] w fun e w'=>e=.returned (.bool (tagB s))/\w'=w:=by
 by_cases h1:s.size=0
 ·have HE:Hid (tagB s=false):=by show _=_;simp[tagB];omega
  have h1':((s.size:Int) == 0)=true:=by rw[beq_iff_eq];omega
  go_enter Tryz.func138,Tryz.ntmps138
  go_wp2_with fail
  go_ret
  exact ⟨by rw[HE.out];rfl,rfl⟩
 ·have h1':((s.size:Int) == 0)=false:=by rw[beq_eq_false_iff_ne];omega
  by_cases h2:15<s.size
  ·have HE:Hid (tagB s=false):=by show _=_;simp[tagB];omega
   have h2':(15:Int)<(s.size:Int):=by omega
   go_enter Tryz.func138,Tryz.ntmps138
   go_wp2_with fail
   go_ret
   exact ⟨by rw[HE.out];rfl,rfl⟩
  ·have h2':¬ (15:Int)<(s.size:Int):=by omega
   have HT:Hid (tagB s=(nums s).all alnum):=by show _=_;simp[tagB];intro _;omega
   go_enter Tryz.func138,Tryz.ntmps138
   go_wp2_with fail
   go_loopw [14] (fun v wr=>wr=w/\∃k:Nat,k<=s.size/\v=.int .i64 (k:Int)/\Hid (∀z∈(nums s).take k,alnum z=true)) (fun v _=>s.size - (intOf v).toNat)
   case atStart=>exact ⟨rfl,0,Nat.zero_le _,rfl,by intro y hy;simp at hy⟩
   case round=>
    obtain ⟨hwr,k,hk,rfl,HF⟩:=hrel
    subst hwr
    by_cases hlt:k<s.size
    ·have hlt':(k:Int)<(s.size:Int):=by omega
     have hbd:=nums_bd s k
     have hki:k<(nums s).length:=by rw[nums_len];exact hlt
     have hat:=nums_at s k hlt
     rw[hat] at hbd
     have HA:Hid (∃h:k<(nums s).length,(nums s)[k]=(s[k].toNat:Int)):=by
      refine ⟨hki,?_⟩
      have:(nums s).getD k 0=(nums s)[k]:=by simp[List.getD_eq_getElem?_getD,hki]
      rw[<- this,hat]
     clear hat hki
     obtain ⟨c,hc⟩:∃c:Int,(s[k].toNat:Int)=c:=⟨_,rfl⟩
     rw[hc] at hbd HA
     go_wp2_with fail
     first|simp only[hc]|skip
     refine (idx_tag c hbd.1 hbd.2 _).mono ?_
     rintro e w1 ⟨j,rfl,HJ,rfl⟩
     cases hal:alnum c with
     |true=>
      have HF2:Hid (∀z∈(nums s).take (k+1),alnum z=true):=by
       intro z hz
       obtain ⟨hin,hav⟩:=HA.out
       rw[List.take_succ_eq_append_getElem hin] at hz
       simp only[List.mem_append,List.mem_singleton] at hz
       rcases hz with hz|hz
       ·exact HF.out z hz
       ·subst hz;rw[hav];exact hal
      have hj:¬ j<0:=by have:=HJ.out;rw[hal] at this;simpa using this
      clear HF hal HJ
      go_wp2_with fail
      exact ⟨⟨by first|rfl|trivial,k+1,by omega,by go_num,HF2⟩,by simp[intOf];omega⟩
     |false=>
      have HE:Hid (tagB s=false):=by
       show _=_
       rw[HT.out,<- Bool.not_eq_true]
       intro hall
       obtain ⟨hin,hav⟩:=HA.out
       have:=List.all_eq_true.1 hall (nums s)[k] (List.getElem_mem hin)
       rw[hav,hal] at this
       cases this
      have hj:j<0:=by have:=HJ.out;rw[hal] at this;simpa using this
      clear HF hal HT HJ
      go_wp2_with fail
      go_ret
      exact ⟨by rw[HE.out];rfl,rfl⟩
    ·have hge:¬ (k:Int)<(s.size:Int):=by omega
     have HE:Hid (tagB s=true):=by
      have:=HF.out
      rw[List.take_of_length_le (by rw[nums_len];omega)] at this
      show _=_
      rw[HT.out]
      exact List.all_eq_true.2 this
     clear HF HT
     go_wp2_with fail
     go_ret
     exact ⟨by rw[HE.out];rfl,rfl⟩
def wthB(f:Fs)(d:Dat):Bool:=d.us.all (fun n=>decide (n / 2 ^ (8*f.wd)=0)) && (d.ts.take f.tg).all tagB && (d.ts.take (d.ts.length - f.tl)).all (fun s=>decide (s.size<=255))
theorem all_cut{α:Type}(l:List α)(p:α->Bool)(k:Nat)(hk:k<l.length)(h:p l[k]=false):l.all p=false:=by
 rw[<- Bool.not_eq_true]
 intro hall
 have:=List.all_eq_true.1 hall l[k] (List.getElem_mem hk)
 rw[h] at this
 cases this
theorem all_next{α:Type}(l:List α)(p:α->Bool)(k:Nat)(hk:k<l.length)(h:p l[k]=true)(hf:∀z∈l.take k,p z=true):∀z∈l.take (k+1),p z=true:=by
 intro z hz
 rw[List.take_succ_eq_append_getElem hk] at hz
 simp only[List.mem_append,List.mem_singleton] at hz
 rcases hz with hz|hz
 ·exact hf z hz
 ·subst hz;exact h
theorem within_any (f : Fs) (x : DA) (d : Dat) (w : World) (h : DRd w x d) (hwd : f.wd = 0 ∨ f.wd = 1 ∨ f.wd = 2 ∨ f.wd = 4) (htg : f.tg <= d.ts.length) (htl : f.tl <= d.ts.length) :
    Calls Tryz.prog 102 #[.agg #[.int .i64 f.nn, .int .i64 f.nf, .int .i64 f.nu, .int .i64 f.wd, .int .i64 f.nt, .int .i64 f.tg, .int .i64 f.tl, .int .i64 f.nr], .agg #[.slice x.p1.a x.p1.n x.p1.c, .slice x.p2.a x.p2.n x.p2.c, .slice x.p3.a x.p3.n x.p3.c, .slice x.p4.a x.p4.n x.p4.c]] w fun e w' => e = .returned (.bool (wthB f d)) /\ Hid (Below w.heap.size w w') := by
  have H : Hid (PtSt w ((w.alloc (.cells #[.int .i64 f.nn, .int .i64 f.nf, .int .i64 f.nu, .int .i64 f.wd, .int .i64 f.nt, .int .i64 f.tg, .int .i64 f.tl, .int .i64 f.nr] 146)).alloc (.cells #[.slice x.p1.a x.p1.n x.p1.c, .slice x.p2.a x.p2.n x.p2.c, .slice x.p3.a x.p3.n x.p3.c, .slice x.p4.a x.p4.n x.p4.c] 41)) w.heap.size f x d) := PtSt.new w f x d h
  have l2 := h.h2.len
  have l3 := h.h3.len
  have HC : Hid (x.p2.n <= 9223372036854775807 /\ x.p3.n <= x.p3.c /\ x.p3.c <= 9223372036854775807) := ⟨Nat.le_trans h.h2.cap.1 h.h2.cap.2, h.h3.cap.1, h.h3.cap.2⟩
  clear h
  obtain ⟨nn, nf, nu, wd, nt, tg, tl, nr⟩ := f
  obtain ⟨⟨a1, n1, k1⟩, ⟨a2, n2, k2⟩, ⟨a3, n3, k3⟩, ⟨a4, n4, k4⟩⟩ := x
  simp only at H l2 l3 HC hwd htg htl ⊢
  have hk3 := HC.out.2
  have hn2 := HC.out.1
  have htg' : tg <= n3 := by omega
  have htl' : tl <= n3 := by omega
  have HW : Hid (wthB ⟨nn, nf, nu, wd, nt, tg, tl, nr⟩ d = (d.us.all (fun n => decide (n / 2 ^ (8 * wd) = 0)) && (d.ts.take tg).all tagB && (d.ts.take (n3 - tl)).all (fun s => decide (s.size <= 255)))) := by
    show _ = _
    unfold wthB
    rw [l3]
  have HL : Hid (d.us.length = n2 /\ d.ts.length = n3) := ⟨l2, l3⟩
  obtain ⟨R, hR⟩ : ∃ R, wthB ⟨nn, nf, nu, wd, nt, tg, tl, nr⟩ d = R := ⟨_, rfl⟩
  rw [hR] at HW ⊢
  clear hR l2 l3 htg htl HC
  go_enter Tryz.func102, Tryz.ntmps102
  go_upto_region 1 with fail
  generalize ((w.alloc (.cells #[.int .i64 nn, .int .i64 nf, .int .i64 nu, .int .i64 wd, .int .i64 nt, .int .i64 tg, .int .i64 tl, .int .i64 nr] 146)).alloc (.cells #[.slice a1 n1 k1, .slice a2 n2 k2, .slice a3 n3 k3, .slice a4 n4 k4] 41)) = W1 at *
  obtain ⟨b, hb⟩ : ∃ b, b = w.heap.size := ⟨_, rfl⟩
  rw [<- hb] at H ⊢
  have Hb : Hid (b = w.heap.size) := hb
  clear hb
  have s3 := H.out.1.2.2.2.1
  have c1 := H.out.2.1.2.1
  simp only at s3 c1
  go_wp2_with fail
  go_loopw [14] (fun v wr => wr = W1 /\ ∃ k : Nat, k <= n2 /\ v = .int .i64 (k : Int) /\ Hid (∀ z ∈ d.us.take k, decide (z / 2 ^ (8 * wd) = 0) = true)) (fun v _ => n2 - (intOf v).toNat)
  case atStart => exact ⟨rfl, 0, Nat.zero_le _, rfl, by intro y hy; simp at hy⟩
  case round =>
    obtain ⟨hwr, k, hk, rfl, HF⟩ := hrel
    subst hwr
    by_cases hlt : k < n2
    · have hlt' : (k : Int) < (n2 : Int) := by omega
      have hki : k < d.us.length := by rw [HL.out.1]; exact hlt
      obtain ⟨B2, o2, ha2, hl2, hz2⟩ := H.out.2.2.1.h2.at k hki
      have hub := H.out.2.2.1.h2.bd _ (List.getElem_mem hki)
      simp only at ha2
      subst ha2
      have HN : Hid (decide (d.us[k] / 2 ^ (8 * wd) = 0) = true -> ∀ z ∈ d.us.take (k + 1), decide (z / 2 ^ (8 * wd) = 0) = true) := fun hh => all_next d.us _ k hki hh HF.out
      have HX : Hid (decide (d.us[k] / 2 ^ (8 * wd) = 0) = false -> R = false) := by
        intro hh
        have := HW.out
        rw [all_cut d.us (fun n => decide (n / 2 ^ (8 * wd) = 0)) k hki hh] at this
        simpa using this
      clear HF
      generalize d.us[k] = u at *
      have hq : ∀ m : Nat, ((u : Int) / ((2 ^ m : Nat) : Int)) = ((u / 2 ^ m : Nat) : Int) := by intro m; simp
      by_cases hu : u / 2 ^ (8 * wd) = 0
      · have HF2 := HN.out (decide_eq_true hu)
        have HF3 : Hid (∀ z ∈ d.us.take (k + 1), decide (z / 2 ^ (8 * wd) = 0) = true) := HF2
        clear HF2 HN HX
        rcases hwd with e | e | e | e
        all_goals
          subst e
          simp at hu
          go_wp2_with fail
          exact ⟨⟨by first | rfl | trivial, k + 1, by omega, by go_num, HF3⟩, by simp [intOf]; omega⟩
      · have HE : Hid (R = false) := HX.out (decide_eq_false hu)
        clear HN HX HW
        rcases hwd with e | e | e | e
        all_goals
          subst e
          simp at hu
          first
          | omega
          | (go_wp2_with fail
             go_ret
             exact ⟨by rw [HE.out]; rfl, H.out.2.2.2⟩)
    · have hge : ¬ (k : Int) < (n2 : Int) := by omega
      have HU : Hid (d.us.all (fun n => decide (n / 2 ^ (8 * wd) = 0)) = true) := by
        have := HF.out
        rw [List.take_of_length_le (by rw [HL.out.1]; omega)] at this
        exact List.all_eq_true.2 this
      clear HF
      have s5 := H.out.1.2.2.2.2.2.1
      have c2 := H.out.2.1.2.2.1
      simp only at s5 c2
      clear s3 c1 hwd
      go_wp2_with fail
      obtain ⟨wz, hz⟩ : ∃ z, z = wr := ⟨_, rfl⟩
      subst hz
      go_loopw [31] (fun v wr => wr = wz /\ ∃ k : Nat, k <= tg /\ v = .int .i64 (k : Int) /\ Hid (∀ z ∈ (d.ts.take tg).take k, tagB z = true)) (fun v _ => tg - (intOf v).toNat)
      case atStart => exact ⟨rfl, 0, Nat.zero_le _, rfl, by intro y hy; simp at hy⟩
      case round =>
        obtain ⟨hwr, j, hj, rfl, HF⟩ := hrel
        subst hwr
        by_cases hjt : j < tg
        · have hjt' : (j : Int) < (tg : Int) := by omega
          have hji : j < d.ts.length := by rw [HL.out.2]; omega
          have hjj : j < (d.ts.take tg).length := by rw [List.length_take]; omega
          obtain ⟨B3, o3, ha3, hl3, hy3⟩ := H.out.2.2.1.h3.rd.at j hji
          have hsz := H.out.2.2.1.h3.z63 _ (List.getElem_mem hji)
          simp only at ha3
          subst ha3
          have hjs : (d.ts.take tg)[j] = d.ts[j] := by simp
          have HN : Hid (tagB d.ts[j] = true -> ∀ z ∈ (d.ts.take tg).take (j + 1), tagB z = true) := fun hh => all_next (d.ts.take tg) tagB j hjj (by rw [hjs]; exact hh) HF.out
          have HX : Hid (tagB d.ts[j] = false -> R = false) := by
            intro hh
            have := HW.out
            rw [all_cut (d.ts.take tg) tagB j hjj (by rw [hjs]; exact hh)] at this
            simpa using this
          clear HF hjs hjj
          generalize d.ts[j] = s at *
          go_wp2_with fail
          refine (istag_any s hsz _).mono ?_
          rintro e Wx ⟨rfl, rfl⟩
          cases htb : tagB s with
          | true =>
            have HF2 : Hid (∀ z ∈ (d.ts.take tg).take (j + 1), tagB z = true) := HN.out htb
            clear HN HX htb
            go_wp2_with fail
            exact ⟨⟨by first | rfl | trivial, j + 1, by omega, by go_num, HF2⟩, by simp [intOf]; omega⟩
          | false =>
            have HE : Hid (R = false) := HX.out htb
            clear HN HX htb
            go_wp2_with fail
            go_ret
            exact ⟨by rw [HE.out]; rfl, H.out.2.2.2⟩
        · have hge2 : ¬ (j : Int) < (tg : Int) := by omega
          have HT : Hid ((d.ts.take tg).all tagB = true) := by
            have := HF.out
            rw [List.take_of_length_le (by rw [List.length_take]; omega)] at this
            exact List.all_eq_true.2 this
          clear HF
          have s6 := H.out.1.2.2.2.2.2.2.1
          simp only at s6
          obtain ⟨m, hm⟩ : ∃ m : Nat, m = n3 - tl := ⟨_, rfl⟩
          have hmi : (n3 : Int) - (tl : Int) = (m : Int) := by omega
          have hmw : IntKind.i64.wrap ((n3 : Int) - (tl : Int)) = (m : Int) := by rw [hmi, IntKind.wrap_i64]; omega
          have HM : Hid (m = n3 - tl) := hm
          have hmn : m <= n3 := by omega
          clear hm hmi s5
          go_wp2_with fail
          obtain ⟨wy, hz⟩ : ∃ z, z = wr := ⟨_, rfl⟩
          subst hz
          go_loopw [49] (fun v wr => wr = wy /\ ∃ k : Nat, k <= m /\ v = .int .i64 (k : Int) /\ Hid (∀ z ∈ (d.ts.take m).take k, decide (z.size <= 255) = true)) (fun v _ => m - (intOf v).toNat)
          case atStart => exact ⟨rfl, 0, Nat.zero_le _, rfl, by intro y hy; simp at hy⟩
          case round =>
            obtain ⟨hwr, i, hi, rfl, HF⟩ := hrel
            subst hwr
            by_cases hit : i < m
            · have hit' : (i : Int) < (m : Int) := by omega
              have hii : i < d.ts.length := by rw [HL.out.2]; omega
              have hij : i < (d.ts.take m).length := by rw [List.length_take]; omega
              obtain ⟨B3, o3, ha3, hl3, hy3⟩ := H.out.2.2.1.h3.rd.at i hii
              simp only at ha3
              subst ha3
              have his : (d.ts.take m)[i] = d.ts[i] := by simp
              by_cases hz : (255 : Int) < (d.ts[i].size : Int)
              · have HE : Hid (R = false) := by
                  have := HW.out
                  show R = false
                  rw [<- HM.out, all_cut (d.ts.take m) (fun s => decide (s.size <= 255)) i hij (by rw [his]; exact decide_eq_false (by omega))] at this
                  simpa using this
                clear HF HW
                generalize d.ts[i] = s at *
                go_wp2_with fail
                go_ret
                exact ⟨by rw [HE.out]; rfl, H.out.2.2.2⟩
              · have HF2 : Hid (∀ z ∈ (d.ts.take m).take (i + 1), decide (z.size <= 255) = true) := all_next (d.ts.take m) (fun z => decide (z.size <= 255)) i hij (by rw [his]; exact decide_eq_true (by omega)) HF.out
                clear HF his
                generalize d.ts[i] = s at *
                go_wp2_with fail
                exact ⟨⟨by first | rfl | trivial, i + 1, by omega, by go_num, HF2⟩, by simp [intOf]; omega⟩
            · have hge3 : ¬ (i : Int) < (m : Int) := by omega
              have HE : Hid (R = true) := by
                have h1 := HF.out
                rw [List.take_of_length_le (by rw [List.length_take]; omega)] at h1
                have h2 := HW.out
                rw [HU.out, HT.out, <- HM.out, List.all_eq_true.2 h1] at h2
                show R = true
                simpa using h2
              clear HF HW
              go_wp2_with fail
              go_ret
              exact ⟨by rw [HE.out]; rfl, H.out.2.2.2⟩
theorem sum_snoc'(l:List Nat)(n:Nat):(l++[n]).sum=l.sum+n:=by simp
theorem sum_take'(l:List Nat)(k:Nat):(l.take k).sum<=l.sum:=by
 induction l generalizing k with
 |nil=>simp
 |cons x l ih=>
  cases k with
  |zero=>simp
  |succ k=>simp;exact ih k
def nsum(d:Dat):Nat:=(d.ns.map nsz).sum
def tz(s:ByteArray):Nat:=1+s.size
def tsum(d:Dat):Nat:=(d.ts.map tz).sum
def pszI(f:Fs)(d:Dat):Int:=((f.wd*d.us.length:Nat):Int)+(d.raw.length:Int) - (f.tl:Int)+(nsum d:Int)+(tsum d:Int)
theorem psize5_any(f:Fs)(x:DA)(d:Dat)(w:World)(h:DRd w x d)(htl:f.tl<=1)(hB:f.wd*d.us.length+d.raw.length+nsum d+tsum d<=1000000000000000) :
  Calls Tryz.prog 103 #[.agg #[.int .i64 f.nn,.int .i64 f.nf,.int .i64 f.nu,.int .i64 f.wd,.int .i64 f.nt,.int .i64 f.tg,.int .i64 f.tl,.int .i64 f.nr],.agg #[.slice x.p1.a x.p1.n x.p1.c,.slice x.p2.a x.p2.n x.p2.c,.slice x.p3.a x.p3.n x.p3.c,.slice x.p4.a x.p4.n x.p4.c]] w fun e w'=>e=.returned (.int .i64 (pszI f d))/\Hid (Below w.heap.size w w'):=by
 have H:Hid (PtSt w ((w.alloc (.cells #[.int .i64 f.nn,.int .i64 f.nf,.int .i64 f.nu,.int .i64 f.wd,.int .i64 f.nt,.int .i64 f.tg,.int .i64 f.tl,.int .i64 f.nr] 146)).alloc (.cells #[.slice x.p1.a x.p1.n x.p1.c,.slice x.p2.a x.p2.n x.p2.c,.slice x.p3.a x.p3.n x.p3.c,.slice x.p4.a x.p4.n x.p4.c] 41)) w.heap.size f x d):=PtSt.new w f x d h
 have l1:=h.h1.len
 have l2:=h.h2.len
 have l3:=h.h3.len
 have l4:=h.h4.len
 have hc1:x.p1.n<=9223372036854775807:=Nat.le_trans h.h1.cap.1 h.h1.cap.2
 have hc3:x.p3.n<=9223372036854775807:=Nat.le_trans h.h3.cap.1 h.h3.cap.2
 clear h
 obtain ⟨nn,nf,nu,wd,nt,tg,tl,nr⟩:=f
 obtain ⟨⟨a1,n1,k1⟩,⟨a2,n2,k2⟩,⟨a3,n3,k3⟩,⟨a4,n4,k4⟩⟩:=x
 simp only at H l1 l2 l3 l4 hc1 hc3 htl hB ⊢
 obtain ⟨Z,hZ⟩:∃Z,pszI ⟨nn,nf,nu,wd,nt,tg,tl,nr⟩ d=Z:=⟨_,rfl⟩
 rw[hZ]
 obtain ⟨P,hP⟩:∃P,wd*n2=P:=⟨_,rfl⟩
 have HZ:Hid (Z=(P:Int)+(n4:Int) - (tl:Int)+(nsum d:Int)+(tsum d:Int)):=by
  show Z=_
  rw[<- hZ]
  unfold pszI
  rw[l4,l2,hP]
 have hB':P+n4+nsum d+tsum d<=1000000000000000:=by rw[<- hP,<- l2,<- l4];exact hB
 have HL:Hid (d.ns.length=n1/\d.ts.length=n3):=⟨l1,l3⟩
 have hPi:(wd:Int)*(n2:Int)=(P:Int):=by rw[<- hP];simp
 clear hZ l1 l2 l3 l4 hP hB
 have w1:IntKind.i64.wrap ((wd:Int)*(n2:Int))=(P:Int):=by rw[hPi,IntKind.wrap_i64];omega
 have w2:IntKind.i64.wrap ((P:Int)+(n4:Int))=(P:Int)+(n4:Int):=by rw[IntKind.wrap_i64];omega
 have w2':IntKind.i64.wrap ((P:Int)+(n4:Int) - (tl:Int))=(P:Int)+(n4:Int) - (tl:Int):=by rw[IntKind.wrap_i64];omega
 clear hPi
 go_enter Tryz.func103,Tryz.ntmps103
 go_upto_region 1 with fail
 generalize ((w.alloc (.cells #[.int .i64 nn,.int .i64 nf,.int .i64 nu,.int .i64 wd,.int .i64 nt,.int .i64 tg,.int .i64 tl,.int .i64 nr] 146)).alloc (.cells #[.slice a1 n1 k1,.slice a2 n2 k2,.slice a3 n3 k3,.slice a4 n4 k4] 41))=W1 at*
 obtain ⟨b,hb⟩:∃b,b=w.heap.size:=⟨_,rfl⟩
 rw[<- hb] at H ⊢
 have Hb:Hid (b=w.heap.size):=hb
 clear hb
 have s3:=H.out.1.2.2.2.1
 have s6:=H.out.1.2.2.2.2.2.2.1
 have c0:=H.out.2.1.1
 have c1:=H.out.2.1.2.1
 have c3:=H.out.2.1.2.2.2.1
 simp only at s3 s6 c0 c1 c3
 go_wp2_with fail
 clear s3 s6 c1 c3 w1 w2 w2'
 go_loopw [5,26] (fun v i wr=>wr=W1/\∃(k:Nat) (A:Int),k<=n1/\i=.int .i64 (k:Int)/\v=.int .i64 A/\(-1<=A/\A<=1000000000000000)/\Hid (A=(P:Int)+(n4:Int) - (tl:Int)+((((d.ns.map nsz).take k).sum:Nat):Int))) (fun _ i _=>n1 - (intOf i).toNat)
 case atStart=>exact ⟨rfl,0,(P:Int)+(n4:Int) - (tl:Int),Nat.zero_le _,rfl,by first|rfl|simp,by omega,by show _=_;simp⟩
 case round=>
  obtain ⟨hwr,k,A,hk,rfl,rfl,hA,HA⟩:=hrel
  subst hwr
  by_cases hlt:k<n1
  ·have hlt':(k:Int)<(n1:Int):=by omega
   have hki:k<d.ns.length:=by rw[HL.out.1];exact hlt
   obtain ⟨B1,o1,ha1,hl1,z1,hz1,hr1⟩:=H.out.2.2.1.h1.at k hki
   simp only at ha1
   subst ha1
   have hsum:((d.ns.map nsz).take (k+1)).sum=((d.ns.map nsz).take k).sum+nsz d.ns[k]:=by
    rw[List.take_succ_eq_append_getElem (by simp;exact hki),sum_snoc'];simp
   have hle:((d.ns.map nsz).take (k+1)).sum<=nsum d:=sum_take' (d.ns.map nsz) (k+1)
   have hA2:=HA.out
   have HA2:Hid (A+(nsz d.ns[k]:Int)=(P:Int)+(n4:Int) - (tl:Int)+((((d.ns.map nsz).take (k+1)).sum:Nat):Int)):=by show _=_;omega
   have hb2:A+(nsz d.ns[k]:Int)<=1000000000000000:=by have:=HA2.out;omega
   have KS:Hid (∀W,W=wr->Calls Tryz.prog 46 #[.slice z1.a z1.n z1.c] W fun e w'=>e=.returned (.int .i64 (nsz d.ns[k]))/\w'=W):=by
    intro W e
    subst e
    exact psize_eq z1.a z1.n z1.c d.ns[k] W hr1.rd hr1.len (by omega)
   clear hsum hle hA2 hr1 HA
   generalize nsz d.ns[k]=q at*
   generalize z1.a=za at*
   generalize z1.n=zn at*
   generalize z1.c=zc at*
   have w3:IntKind.i64.wrap (A+(q:Int))=A+(q:Int):=by rw[IntKind.wrap_i64];omega
   go_wp2_with fail
   refine (KS.out _ rfl).mono ?_
   rintro e Wx ⟨rfl,rfl⟩
   go_wp2_with fail
   refine ⟨⟨by first|rfl|trivial,k+1,A+(q:Int),by omega,by go_num,by first|rfl|go_num,by omega,HA2⟩,?_⟩
   simp[intOf];omega
  ·have hge:¬ (k:Int)<(n1:Int):=by omega
   have HA1:Hid (A=(P:Int)+(n4:Int) - (tl:Int)+(nsum d:Int)):=by
    have:=HA.out
    rwa [List.take_of_length_le (by simp;rw[HL.out.1];omega)] at this
   clear HA
   have c2:=H.out.2.1.2.2.1
   simp only at c2
   clear c0
   go_wp2_with fail
   obtain ⟨wz,hz⟩:∃z,z=wr:=⟨_,rfl⟩
   subst hz
   go_loopw [5,38] (fun v i wr=>wr=wz/\∃(j:Nat) (B:Int),j<=n3/\i=.int .i64 (j:Int)/\v=.int .i64 B/\(-1<=B/\B<=1000000000000000)/\Hid (B=A+((((d.ts.map tz).take j).sum:Nat):Int))) (fun _ i _=>n3 - (intOf i).toNat)
   case atStart=>exact ⟨rfl,0,A,Nat.zero_le _,rfl,rfl,hA,by show _=_;simp⟩
   case round=>
    obtain ⟨hwr,j,B,hj,rfl,rfl,hB2,HBB⟩:=hrel
    subst hwr
    by_cases hjt:j<n3
    ·have hjt':(j:Int)<(n3:Int):=by omega
     have hji:j<d.ts.length:=by rw[HL.out.2];exact hjt
     obtain ⟨B3,o3,ha3,hl3,hy3⟩:=H.out.2.2.1.h3.rd.at j hji
     simp only at ha3
     subst ha3
     have hsum:((d.ts.map tz).take (j+1)).sum=((d.ts.map tz).take j).sum+(1+d.ts[j].size):=by
      rw[List.take_succ_eq_append_getElem (by simp;exact hji),sum_snoc'];simp[tz]
     have hle:((d.ts.map tz).take (j+1)).sum<=tsum d:=sum_take' _ (j+1)
     have hA2:=HBB.out
     have hA3:=HA1.out
     have HB3:Hid (B+(1+(d.ts[j].size:Int))=A+((((d.ts.map tz).take (j+1)).sum:Nat):Int)):=by show _=_;omega
     have hb3:B+(1+(d.ts[j].size:Int))<=1000000000000000:=by have:=HB3.out;omega
     clear hsum hle hA2 hA3 HBB
     obtain ⟨s,hs⟩:∃s,s=d.ts[j]:=⟨_,rfl⟩
     rw[<- hs] at HB3 hb3 hy3
     clear hs
     have w4:IntKind.i64.wrap (1+(s.size:Int))=1+(s.size:Int):=by rw[IntKind.wrap_i64];omega
     have w5:IntKind.i64.wrap (B+(1+(s.size:Int)))=B+(1+(s.size:Int)):=by rw[IntKind.wrap_i64];omega
     go_wp2_with fail
     refine ⟨⟨by first|rfl|trivial,j+1,B+(1+(s.size:Int)),by omega,by go_num,by first|rfl|go_num,by omega,HB3⟩,?_⟩
     simp[intOf];omega
    ·have hge2:¬ (j:Int)<(n3:Int):=by omega
     have HE:Hid (Z=B):=by
      have h1:=HBB.out
      rw[List.take_of_length_le (by simp;rw[HL.out.2];omega)] at h1
      have h2:=HZ.out
      have h3:=HA1.out
      show Z=B
      have h4:tsum d=(d.ts.map tz).sum:=rfl
      omega
     clear HBB HA1
     go_wp2_with fail
     go_ret
     exact ⟨by rw[HE.out];rfl,H.out.2.2.2⟩
theorem dec_wd(wd:Nat)(h:wd=1∨wd=2∨wd=4)(n:Nat):decide (n / 2 ^ (8*wd)=0)=decide (n<=most wd):=by
 apply decide_eq_decide.2
 rcases h with rfl|rfl|rfl <;> simp[most] <;> omega
theorem fitB_ge(n:Nat)(c:Int)(h:0<=c):fitB n c=decide ((n:Int)=c):=by
 unfold fitB
 rw[if_neg (by omega),if_neg (by omega)]
theorem nil_of{α:Type}{l:List α}(h:(l.length:Int)=0):l=[]:=List.eq_nil_of_length_eq_zero (by omega)
theorem fit_eq(t:Nat)(d:Dat):(cntB (fs t) d && wthB (fs t) d)=fitsB t d:=by
 obtain ⟨ns,us,ts,raw⟩:=d
 rw[Bool.eq_iff_iff]
 unfold cntB wthB fitsB
 rcases fs_cases t with ⟨ht,e⟩|⟨ht,e⟩|⟨ht,e⟩|⟨ht,e⟩|⟨ht,e⟩|⟨ht,e⟩|⟨ht,e⟩|⟨ht,e⟩|⟨ht,e⟩
 ·have es':shp t=⟨0,0,0,4,0⟩:=by subst ht;rfl
  have q1:t≠16:=by omega
  have q2:t≠257:=by omega
  rw[e,es']
  simp only[fitB_ge _ ((0:Nat):Int) (by omega),fitB_ge _ (0:Int) (by omega),fitB_ge _ ((1:Nat):Int) (by omega),fitB_ge _ (4:Int) (by omega),fitB_ge _ (16:Int) (by omega),Bool.and_eq_true,Bool.or_eq_true,decide_eq_true_eq,List.all_eq_true]
  constructor
  ·rintro ⟨⟨⟨⟨h1,h2⟩,h3⟩,h4⟩,_⟩
   obtain rfl:=nil_of h2
   obtain rfl:=nil_of h3
   exact ⟨⟨⟨⟨⟨⟨⟨by omega,rfl⟩,.inr rfl⟩,.inl (by omega)⟩,.inr (by omega)⟩,by simp⟩,.inl q1⟩,.inl q2⟩
  ·rintro ⟨⟨⟨⟨⟨⟨⟨h1,h2⟩,h3⟩,_⟩,h4⟩,_⟩,_⟩,_⟩
   obtain rfl:=List.eq_nil_of_length_eq_zero h2
   obtain rfl:=nil_of (l:=ts) (by omega)
   exact ⟨⟨⟨⟨by omega,rfl⟩,rfl⟩,by omega⟩,⟨by simp,by simp⟩,by simp⟩
 ·have es':shp t=⟨0,0,0,16,0⟩:=by subst ht;rfl
  have q1:t≠16:=by omega
  have q2:t≠257:=by omega
  rw[e,es']
  simp only[fitB_ge _ ((0:Nat):Int) (by omega),fitB_ge _ (0:Int) (by omega),fitB_ge _ ((1:Nat):Int) (by omega),fitB_ge _ (4:Int) (by omega),fitB_ge _ (16:Int) (by omega),Bool.and_eq_true,Bool.or_eq_true,decide_eq_true_eq,List.all_eq_true]
  constructor
  ·rintro ⟨⟨⟨⟨h1,h2⟩,h3⟩,h4⟩,_⟩
   obtain rfl:=nil_of h2
   obtain rfl:=nil_of h3
   exact ⟨⟨⟨⟨⟨⟨⟨by omega,rfl⟩,.inr rfl⟩,.inl (by omega)⟩,.inr (by omega)⟩,by simp⟩,.inl q1⟩,.inl q2⟩
  ·rintro ⟨⟨⟨⟨⟨⟨⟨h1,h2⟩,h3⟩,_⟩,h4⟩,_⟩,_⟩,_⟩
   obtain rfl:=List.eq_nil_of_length_eq_zero h2
   obtain rfl:=nil_of (l:=ts) (by omega)
   exact ⟨⟨⟨⟨by omega,rfl⟩,rfl⟩,by omega⟩,⟨by simp,by simp⟩,by simp⟩
 ·have es':shp t=⟨1,0,0,0,0⟩:=by rcases ht with rfl|rfl|rfl <;> rfl
  have q1:t≠16:=by omega
  have q2:t≠257:=by omega
  rw[e,es']
  simp only[fitB_ge _ ((0:Nat):Int) (by omega),fitB_ge _ (0:Int) (by omega),fitB_ge _ ((1:Nat):Int) (by omega),fitB_ge _ (4:Int) (by omega),fitB_ge _ (16:Int) (by omega),Bool.and_eq_true,Bool.or_eq_true,decide_eq_true_eq,List.all_eq_true]
  constructor
  ·rintro ⟨⟨⟨⟨h1,h2⟩,h3⟩,h4⟩,_⟩
   obtain rfl:=nil_of h2
   obtain rfl:=nil_of h3
   exact ⟨⟨⟨⟨⟨⟨⟨by omega,rfl⟩,.inr rfl⟩,.inl (by omega)⟩,.inr (by omega)⟩,by simp⟩,.inl q1⟩,.inl q2⟩
  ·rintro ⟨⟨⟨⟨⟨⟨⟨h1,h2⟩,h3⟩,_⟩,h4⟩,_⟩,_⟩,_⟩
   obtain rfl:=List.eq_nil_of_length_eq_zero h2
   obtain rfl:=nil_of (l:=ts) (by omega)
   exact ⟨⟨⟨⟨by omega,rfl⟩,rfl⟩,by omega⟩,⟨by simp,by simp⟩,by simp⟩
 ·have es':shp t=⟨2,5,0,0,4⟩:=by subst ht;rfl
  have q1:t≠16:=by omega
  have q2:t≠257:=by omega
  have hd:=dec_wd 4 (by simp)
  rw[e,es']
  simp only[hd,fitB_ge _ ((0:Nat):Int) (by omega),fitB_ge _ (0:Int) (by omega),fitB_ge _ ((1:Nat):Int) (by omega),fitB_ge _ ((2:Nat):Int) (by omega),fitB_ge _ ((3:Nat):Int) (by omega),fitB_ge _ ((5:Nat):Int) (by omega),Bool.and_eq_true,Bool.or_eq_true,decide_eq_true_eq,List.all_eq_true]
  constructor
  ·rintro ⟨⟨⟨⟨h1,h2⟩,h3⟩,h4⟩,⟨h5,_⟩,_⟩
   obtain rfl:=nil_of h3
   obtain rfl:=nil_of h4
   exact ⟨⟨⟨⟨⟨⟨⟨by omega,by omega⟩,.inr rfl⟩,.inl (by omega)⟩,.inr rfl⟩,h5⟩,.inl q1⟩,.inl q2⟩
  ·rintro ⟨⟨⟨⟨⟨⟨⟨h1,h2⟩,h3⟩,_⟩,h4⟩,h5⟩,_⟩,_⟩
   obtain rfl:=nil_of (l:=ts) (by omega)
   obtain rfl:=nil_of (l:=raw) (by omega)
   exact ⟨⟨⟨⟨by omega,by omega⟩,rfl⟩,rfl⟩,⟨h5,by simp⟩,by simp⟩
 ·have es':shp t=⟨1,1,0,0,2⟩:=by subst ht;rfl
  have q1:t≠16:=by omega
  have q2:t≠257:=by omega
  have hd:=dec_wd 2 (by simp)
  rw[e,es']
  simp only[hd,fitB_ge _ ((0:Nat):Int) (by omega),fitB_ge _ (0:Int) (by omega),fitB_ge _ ((1:Nat):Int) (by omega),fitB_ge _ ((2:Nat):Int) (by omega),fitB_ge _ ((3:Nat):Int) (by omega),fitB_ge _ ((5:Nat):Int) (by omega),Bool.and_eq_true,Bool.or_eq_true,decide_eq_true_eq,List.all_eq_true]
  constructor
  ·rintro ⟨⟨⟨⟨h1,h2⟩,h3⟩,h4⟩,⟨h5,_⟩,_⟩
   obtain rfl:=nil_of h3
   obtain rfl:=nil_of h4
   exact ⟨⟨⟨⟨⟨⟨⟨by omega,by omega⟩,.inr rfl⟩,.inl (by omega)⟩,.inr rfl⟩,h5⟩,.inl q1⟩,.inl q2⟩
  ·rintro ⟨⟨⟨⟨⟨⟨⟨h1,h2⟩,h3⟩,_⟩,h4⟩,h5⟩,_⟩,_⟩
   obtain rfl:=nil_of (l:=ts) (by omega)
   obtain rfl:=nil_of (l:=raw) (by omega)
   exact ⟨⟨⟨⟨by omega,by omega⟩,rfl⟩,rfl⟩,⟨h5,by simp⟩,by simp⟩
 ·have es':shp t=⟨1,3,0,0,2⟩:=by subst ht;rfl
  have q1:t≠16:=by omega
  have q2:t≠257:=by omega
  have hd:=dec_wd 2 (by simp)
  rw[e,es']
  simp only[hd,fitB_ge _ ((0:Nat):Int) (by omega),fitB_ge _ (0:Int) (by omega),fitB_ge _ ((1:Nat):Int) (by omega),fitB_ge _ ((2:Nat):Int) (by omega),fitB_ge _ ((3:Nat):Int) (by omega),fitB_ge _ ((5:Nat):Int) (by omega),Bool.and_eq_true,Bool.or_eq_true,decide_eq_true_eq,List.all_eq_true]
  constructor
  ·rintro ⟨⟨⟨⟨h1,h2⟩,h3⟩,h4⟩,⟨h5,_⟩,_⟩
   obtain rfl:=nil_of h3
   obtain rfl:=nil_of h4
   exact ⟨⟨⟨⟨⟨⟨⟨by omega,by omega⟩,.inr rfl⟩,.inl (by omega)⟩,.inr rfl⟩,h5⟩,.inl q1⟩,.inl q2⟩
  ·rintro ⟨⟨⟨⟨⟨⟨⟨h1,h2⟩,h3⟩,_⟩,h4⟩,h5⟩,_⟩,_⟩
   obtain rfl:=nil_of (l:=ts) (by omega)
   obtain rfl:=nil_of (l:=raw) (by omega)
   exact ⟨⟨⟨⟨by omega,by omega⟩,rfl⟩,rfl⟩,⟨h5,by simp⟩,by simp⟩
 ·have es':shp t=⟨0,0,-1,0,0⟩:=by subst ht;rfl
  have q2:t≠257:=by omega
  rw[e,es']
  have f1:fitB ts.length (-1)=decide (0<ts.length):=by simp[fitB]
  simp only[f1,fitB_ge _ ((0:Nat):Int) (by omega),fitB_ge _ (0:Int) (by omega),Bool.and_eq_true,Bool.or_eq_true,decide_eq_true_eq,List.all_eq_true]
  constructor
  ·rintro ⟨⟨⟨⟨h1,h2⟩,h3⟩,h4⟩,_,h5⟩
   obtain rfl:=nil_of h2
   obtain rfl:=nil_of h4
   exact ⟨⟨⟨⟨⟨⟨⟨by omega,rfl⟩,.inl (by omega)⟩,.inr (by omega)⟩,.inr rfl⟩,by simp⟩,.inr (by simpa using h5)⟩,.inl q2⟩
  ·rintro ⟨⟨⟨⟨⟨⟨⟨h1,h2⟩,h3⟩,h6⟩,h4⟩,h5⟩,h7⟩,_⟩
   obtain rfl:=List.eq_nil_of_length_eq_zero h2
   obtain rfl:=nil_of (l:=raw) (by omega)
   exact ⟨⟨⟨⟨by omega,rfl⟩,by omega⟩,rfl⟩,⟨by simp,by simp⟩,by have:=h7.resolve_left (fun hh=>hh ht);simpa using this⟩
 ·have es':shp t=⟨0,1,2,0,1⟩:=by subst ht;rfl
  have q1:t≠16:=by omega
  have hd:=dec_wd 1 (by simp)
  rw[e,es']
  simp only[hd,fitB_ge _ ((0:Nat):Int) (by omega),fitB_ge _ (0:Int) (by omega),fitB_ge _ ((1:Nat):Int) (by omega),fitB_ge _ (2:Int) (by omega),Bool.and_eq_true,Bool.or_eq_true,decide_eq_true_eq,List.all_eq_true]
  constructor
  ·rintro ⟨⟨⟨⟨h1,h2⟩,h3⟩,h4⟩,⟨h5,h6⟩,h7⟩
   rcases ts with _|⟨a,_|⟨b,_|⟨c,ts⟩⟩⟩
   ·simp at h3
   ·simp at h3
   ·obtain rfl:=nil_of h4
    exact ⟨⟨⟨⟨⟨⟨⟨by omega,by omega⟩,.inr rfl⟩,.inl (by omega)⟩,.inr rfl⟩,h5⟩,.inl q1⟩,.inr (h6 a (by simp))⟩
   ·simp at h3;omega
  ·rintro ⟨⟨⟨⟨⟨⟨⟨h1,h2⟩,h3⟩,_⟩,h4⟩,h5⟩,_⟩,h8⟩
   rcases ts with _|⟨a,_|⟨b,_|⟨c,ts⟩⟩⟩
   ·simp at h3
   ·simp at h3
   ·obtain rfl:=nil_of (l:=raw) (by omega)
    have hta:tagB a=true:=by have:=h8.resolve_left (fun hh=>hh ht);simpa using this
    have ha:a.size<=255:=by simp[tagB] at hta;omega
    refine ⟨⟨⟨⟨by omega,by omega⟩,by simp⟩,rfl⟩,⟨h5,by simp[hta]⟩,by simp[ha]⟩
   ·simp at h3;omega
 ·obtain ⟨h1,h2,h3,h4,h5,h6,h7,h8,h9,h10⟩:=ht
  have es':shp t=⟨0,0,0,-1,0⟩:=by unfold shp;simp[h1,h2,h3,h4,h5,h6,h7,h8,h9,h10]
  rw[e,es']
  have f1:fitB raw.length (-2)=true:=by simp[fitB]
  simp only[f1,fitB_ge _ ((0:Nat):Int) (by omega),fitB_ge _ (0:Int) (by omega),Bool.and_eq_true,Bool.or_eq_true,decide_eq_true_eq,List.all_eq_true]
  constructor
  ·rintro ⟨⟨⟨⟨i1,i2⟩,i3⟩,i4⟩,_⟩
   obtain rfl:=nil_of i2
   obtain rfl:=nil_of i3
   exact ⟨⟨⟨⟨⟨⟨⟨by omega,rfl⟩,.inr rfl⟩,.inl (by omega)⟩,.inl (by omega)⟩,by simp⟩,.inl h9⟩,.inl h10⟩
  ·rintro ⟨⟨⟨⟨⟨⟨⟨i1,i2⟩,i3⟩,_⟩,i4⟩,_⟩,_⟩,_⟩
   obtain rfl:=List.eq_nil_of_length_eq_zero i2
   obtain rfl:=nil_of (l:=ts) (by omega)
   exact ⟨⟨⟨⟨by omega,rfl⟩,rfl⟩,trivial⟩,⟨by simp,by simp⟩,by simp⟩
theorem tsum_nby(l:List ByteArray):(l.map tz).sum=(nby l).length:=by
 induction l with
 |nil=>simp[nby]
 |cons a l ih=>
  have e:nby (a::l)=(a.size:Int)::(nums a++nby l):=by simp[nby]
  rw[e]
  simp[ih,nums_len,tz]
  omega
theorem psz_eq(t:Nat)(d:Dat)(h:fitsB t d=true):pszI (fs t) d=(sizesF t d:Nat):=by
 obtain ⟨ns,us,ts,raw⟩:=d
 unfold fitsB at h
 unfold pszI sizesF nsum tsum
 simp only[Bool.and_eq_true,Bool.or_eq_true,decide_eq_true_eq] at h ⊢
 obtain ⟨⟨⟨⟨⟨⟨⟨h1,h2⟩,h3⟩,h6⟩,h4⟩,h5⟩,h7⟩,h8⟩:=h
 have key:(shp t).wd=(fs t).wd/\((((fs t).tl=0/\t≠257)/\(t=16∨((shp t).nt=0)))∨((fs t).tl=1/\t=257/\(shp t).nt=2)):=by
  rcases fs_cases t with ⟨ht,e⟩|⟨ht,e⟩|⟨ht,e⟩|⟨ht,e⟩|⟨ht,e⟩|⟨ht,e⟩|⟨ht,e⟩|⟨ht,e⟩|⟨ht,e⟩
  ·subst ht;exact ⟨rfl,.inl ⟨⟨rfl,by omega⟩,.inr rfl⟩⟩
  ·subst ht;exact ⟨rfl,.inl ⟨⟨rfl,by omega⟩,.inr rfl⟩⟩
  ·rcases ht with rfl|rfl|rfl <;> exact ⟨rfl,.inl ⟨⟨rfl,by omega⟩,.inr rfl⟩⟩
  ·subst ht;exact ⟨rfl,.inl ⟨⟨rfl,by omega⟩,.inr rfl⟩⟩
  ·subst ht;exact ⟨rfl,.inl ⟨⟨rfl,by omega⟩,.inr rfl⟩⟩
  ·subst ht;exact ⟨rfl,.inl ⟨⟨rfl,by omega⟩,.inr rfl⟩⟩
  ·subst ht;exact ⟨rfl,.inl ⟨⟨rfl,by omega⟩,.inl rfl⟩⟩
  ·subst ht;exact ⟨rfl,.inr ⟨rfl,rfl,rfl⟩⟩
  ·obtain ⟨i1,i2,i3,i4,i5,i6,i7,i8,i9,i10⟩:=ht
   have es':shp t=⟨0,0,0,-1,0⟩:=by unfold shp;simp[i1,i2,i3,i4,i5,i6,i7,i8,i9,i10]
   rw[e,es']
   exact ⟨rfl,.inl ⟨⟨rfl,i10⟩,.inr rfl⟩⟩
 obtain ⟨kw,kt⟩:=key
 rw[kw,tsum_nby,Nat.mul_comm us.length]
 rcases kt with ⟨⟨k1,k2⟩,k3⟩|⟨k1,k2,k3⟩
 ·rw[k1]
  rcases k3 with k3|k3
  ·have:tsz t ts=(nby ts).length:=by unfold tsz;rw[if_pos k3]
   rw[this];omega
  ·have hz:ts=[]:=nil_of (by omega)
   subst hz
   have:tsz t []=0:=by unfold tsz;split <;> simp[nby]
   rw[this];simp[nby];omega
 ·rw[k1]
  rcases ts with _|⟨a,_|⟨b,_|⟨c,ts⟩⟩⟩
  ·simp at h3;omega
  ·simp at h3;omega
  ·have:tsz t [a,b]=a.size+1+b.size:=by unfold tsz;rw[if_neg (by omega)];simp[nums_len]
   rw[this]
   have:(nby [a,b]).length=a.size+1+(b.size+1):=by simp[nby,nums_len];omega
   rw[this];omega
  ·simp at h3;omega
theorem pcheck_wide(a:Option Addr)(len cap:Nat)(ss:List ByteArray)(w:World)(hr:RdT w a ss)(hl:ss.length=len)(hm:labsOk ss->nsz ss<=1000000000000000)(hlen:len<=9223372036854775807)(hz:∀s∈ss,s.size<=9223372036854775807) :
  Calls Tryz.prog 19 #[.slice a len cap] w fun e w'=>e=.returned (.int .i64 (nck ss))/\w'=w:=by
 have HR:Hid (RdT w a ss/\∀s∈ss,s.size<=9223372036854775807):=⟨hr,hz⟩
 have HL:Hid (ss.length=len):=hl
 have HS:Hid (labsOk ss->∀W,RdT W a ss->Calls Tryz.prog 46 #[.slice a len cap] W fun e w'=>e=.returned (.int .i64 (nsz ss))/\w'=W):=fun ho W hW=>psize_eq a len cap ss W hW hl (hm ho)
 obtain ⟨T,hT⟩:∃T,nsz ss=T:=⟨_,rfl⟩
 have HT:Hid (nsz ss=T):=hT
 rw[hT] at HS
 clear hr hl hT hz hm
 go_enter Tryz.func19,Tryz.ntmps19
 go_wp2_with fail
 go_loopw [8] (fun x wr=>∃k:Nat,k<=len/\x=.int .i64 k/\wr=w/\Hid (∀i (h:i<ss.length),i<k->chk ss[i].size=0)) (fun x _=>len - (intOf x).toNat)
 case atStart=>exact ⟨0,Nat.zero_le _,rfl,rfl,fun i _ h=>absurd h (by omega)⟩
 case round=>
  obtain ⟨k,hk,rfl,rfl,HK⟩:=hrel
  by_cases hlt:k<len
  ·have hlt':(k:Int)<(len:Int):=by omega
   have hks:k<ss.length:=by rw[HL.out];exact hlt
   obtain ⟨b,o,rfl,hb,hc⟩:=HR.out.1.at k hks
   have HC:Hid (∀W,Calls Tryz.prog 45 #[.string ss[k]] W fun e w'=>e=.returned (.int .i64 (chk ss[k].size))/\w'=W):=fun W=>chk_any ss[k] W (HR.out.2 _ (List.getElem_mem hks))
   rcases chk_cases ss[k].size with hk0|hk4
   ·have HN:Hid (∀i (h:i<ss.length),i<k+1->chk ss[i].size=0):=by
     intro i h hi
     by_cases e:i=k
     ·subst e;exact hk0
     ·exact HK.out i h (by omega)
    rw[hk0] at HC
    clear hk0 HK
    generalize ss[k]=s at*
    go_wp2_with fail
    refine (HC.out _).mono ?_
    rintro e w1 ⟨rfl,rfl⟩
    go_wp2
    exact ⟨⟨k+1,by omega,by go_num,trivial,HN⟩,by simp[intOf];omega⟩
   ·have HE:Hid (nck ss=4):=by
     show nck ss=4
     unfold nck
     rw[if_neg (fun h=>by have:=h _ (List.getElem_mem hks);rw[hk4] at this;cases this)]
    rw[hk4] at HC
    clear hk4 HK
    generalize ss[k]=s at*
    go_wp2_with fail
    refine (HC.out _).mono ?_
    rintro e w1 ⟨rfl,rfl⟩
    go_wp2
    go_ret
    exact ⟨by rw[HE.out];rfl,rfl⟩
  ·have hge:(len:Int)<=(k:Int):=by omega
   have HO:Hid (labsOk ss):=by
    intro s hs
    obtain ⟨i,hi,rfl⟩:=List.getElem_of_mem hs
    exact HK.out i hi (by have:=HL.out;omega)
   by_cases hb:255<T
   ·have HE:Hid (nck ss=5):=by show nck ss=5;unfold nck;rw[if_pos HO.out,HT.out,if_pos hb]
    have hb':(255:Int)<(T:Int):=by omega
    clear HK
    go_wp2_with fail
    refine (HS.out HO.out _ HR.out.1).mono ?_
    rintro e w1 ⟨rfl,rfl⟩
    go_wp2
    go_ret
    exact ⟨by rw[HE.out];rfl,rfl⟩
   ·have HE:Hid (nck ss=0):=by show nck ss=0;unfold nck;rw[if_pos HO.out,HT.out,if_neg hb]
    have hb':¬ (255:Int)<(T:Int):=by omega
    clear HK
    go_wp2_with fail
    refine (HS.out HO.out _ HR.out.1).mono ?_
    rintro e w1 ⟨rfl,rfl⟩
    go_wp2
    go_ret
    exact ⟨by rw[HE.out];rfl,rfl⟩
end Go.Proofs.YtoppdmlmhigogaaGreatDoor
