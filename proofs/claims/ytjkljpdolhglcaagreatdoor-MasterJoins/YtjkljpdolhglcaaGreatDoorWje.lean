/- Texts laid together, in parts: Hl Hm Hp Hn. -/
import Derived.Test.YtjkljpdolhglcaaGreatDoorWjd
import Derived.Deep.RegionLaw
import Derived.Deep.CutBlock
set_option maxRecDepth 100000
set_option maxHeartbeats 8000000
set_option linter.unusedVariables false
set_option linter.unusedSimpArgs false
namespace Go.Proofs.YtjkljpdolhglcaaGreatDoor
open Go.ChangeShapes Go.WideShapes Go.ChangeAt Go.RowKit
theorem rtake2(Wb w:World)(g:Nat)(a:Option Addr)(len cap:Nat)(zs:List Int)(st:Option Nat)(n:Int)(h:RS Wb w g a len cap zs st) :
  Calls Tryz.prog 183 #[.pointer (some ⟨g,0,none⟩),.int .i64 n] w fun e w'=>∃s:Sl,e=.returned (.slice s.a s.n s.c)/\Hid (BOwn Wb.heap.size w' s (tk zs st n)/\RS Wb w' g a len cap zs (mv len st n)/\w.grownBy w' (some g)):=by
 refine (rtake_any g a len cap zs st n w h.rst h.rdW h.hl h.hc (by have:=h.hm;omega) h.hd h.off).mono ?_
 rintro e w' ⟨v,ys,rfl,H⟩
 obtain ⟨h1,h2,h3,h4⟩:=H.out
 obtain ⟨ao,rfl,_⟩:=h1.addr
 exact ⟨⟨ao,(tk zs st n).length,ys.length⟩,rfl,⟨ys,own_mono h1 h.kp.size,h2⟩,h.to h3 h4,h4⟩
theorem wp_text1{w:World}{ops:Array Oper}{rest:List Oper}{o:Oper}{a:Act}{Q:Exit->Act->World->Prop}(hgd:o.guard=none)(s x:Operand)
  (ho:o.op=.call { callee:=.builtin .append,args:=#[s,x],argTypes:=#[22,22] }) (B:Nat) (s2:Sl) (ts:List ByteArray) (hs:a.eval s=.slice s2.a s2.n s2.c) (hown:Own1 B w s2 ts)
  (ao:Addr) (hx:a.eval x=.slice (some ao) 1 1) (u:ByteArray) (hr:RdT w (some ao) [u]) (hu:u.size<=1000000000000) (hn:ts.length<=1000000) (hB:B<=w.heap.size)
  (h:∀(t':Sl) w',Hid (Own1 B w' t' (ts++[u]))->Hid (w.grownBy w' (Value.ownBlock (.slice s2.a s2.n s2.c))/\∀j,(Value.ownBlock (.slice s2.a s2.n s2.c))=some j->B<=j)->Hid (t'.n=ts.length+1)->wpList Tryz.prog ops Q rest (a.put o.dst (.slice t'.a t'.n t'.c)) w') :
  wpList Tryz.prog ops Q (o::rest) a w:=by
 obtain ⟨ys,h1,h2⟩:=hown
 refine wpList_append_T tyT w hgd s x 22 9 Tryz.underlying22 ho B _ ts.length ys 1000000000000 hs h1 (some ao) 1 1 [u] hx hr rfl (by intro z hz;simp at hz;subst hz;exact hu) (by omega) hB ?_
 intro v' w' zs q1 q2 q3
 obtain ⟨ao',rfl,_⟩:=q1.out.shape
 refine h ⟨ao',ts.length+1,zs.length⟩ w' ⟨zs,by simpa using q1.out,?_⟩ ⟨q3,h1.1.lt⟩ rfl
 have:=q2.out
 rw[h2] at this
 simpa using this
theorem FBox.grown{w w':World}{b g:Nat}{f:Fs}(h:FBox w b f)(hg:w.grownBy w' (some g))(hne:g<b):FBox w' b f:=by
 obtain ⟨h0,h1,h2,h3,h4,h5,h6,h7,hl⟩:=h
 have hb:w'.heap[b]?=w.heap[b]?:=hg.block b hl (fun e=>by cases e;omega)
 exact ⟨(World.cell?_of_block hb).trans h0,(World.cell?_of_block hb).trans h1,(World.cell?_of_block hb).trans h2,(World.cell?_of_block hb).trans h3,(World.cell?_of_block hb).trans h4,(World.cell?_of_block hb).trans h5,(World.cell?_of_block hb).trans h6,(World.cell?_of_block hb).trans h7,Nat.lt_of_lt_of_le hl hg.size⟩
theorem FBox.app{w w':World}{b:Nat}{f:Fs}{o:Option Nat}(h:FBox w b f)(hg:w.grownBy w' o)(hne:∀j,o=some j->b<j):FBox w' b f:=by
 obtain ⟨h0,h1,h2,h3,h4,h5,h6,h7,hl⟩:=h
 have hb:w'.heap[b]?=w.heap[b]?:=hg.block b hl (fun e=>by have:=hne b e.symm;omega)
 exact ⟨(World.cell?_of_block hb).trans h0,(World.cell?_of_block hb).trans h1,(World.cell?_of_block hb).trans h2,(World.cell?_of_block hb).trans h3,(World.cell?_of_block hb).trans h4,(World.cell?_of_block hb).trans h5,(World.cell?_of_block hb).trans h6,(World.cell?_of_block hb).trans h7,Nat.lt_of_lt_of_le hl hg.size⟩
theorem Own1.mono{B B':Nat}{w:World}{s:Sl}{nm:List ByteArray}(h:Own1 B w s nm)(hB:B'<=B):Own1 B' w s nm:=by
 obtain ⟨ys,h1,h2⟩:=h
 exact ⟨ys,h1.mono hB,h2⟩
theorem lft_mv(len:Nat)(st:Option Nat)(n:Int)(h:∀k,st=some k->k<=len):(lft len (mv len st n)).toNat<=(lft len st).toNat:=by
 cases st with
 |none=>simp[mv,lft]
 |some k=>
  have:=h k rfl
  simp only[mv]
  by_cases hc:0<=n/\(k:Int)+n<=len
  ·rw[if_pos hc];simp only[lft];omega
  ·rw[if_neg hc];simp[lft]
theorem lft_one(len:Nat)(st:Option Nat)(h:∀k,st=some k->k<=len)(hp:0<lft len st):(lft len (mv len st 1)).toNat+1<=(lft len st).toNat/\∀k,mv len st 1=some k->k<=len:=by
 cases st with
 |none=>simp[lft] at hp
 |some k=>
  have:=h k rfl
  simp only[lft] at hp
  have hc:(0:Int)<=1/\(k:Int)+1<=(len:Int):=by omega
  simp only[mv]
  rw[if_pos hc]
  constructor
  ·simp[lft];omega
  ·intro j hj;injection hj with hj;omega
theorem tk_size(zs:List Int)(len:Nat)(hl:zs.length=len)(st:Option Nat)(n:Int):(tk zs st n).length<=len:=by
 unfold tk
 split
 ·split
  ·simp;omega
  ·simp
 ·simp
def ptxF(zs:List Int)(len:Nat):Nat->Option Nat->List ByteArray × Option Nat
 |0,st=>([],st)
 |k+1,st=>if 0<lft len st then (lb (tk zs (mv len st 1) (val (tk zs st 1)))::(ptxF zs len k (mv len (mv len st 1) (val (tk zs st 1)))).1,(ptxF zs len k (mv len (mv len st 1) (val (tk zs st 1)))).2) else ([],st)
theorem ptxF_end(zs:List Int)(len k:Nat)(st:Option Nat)(h:¬ 0<lft len st):ptxF zs len k st=([],st):=by
 cases k with
 |zero=>rfl
 |succ k=>unfold ptxF;rw[if_neg h]
def lenOf:Value->Nat
 | .slice _ n _=>n
 |_=>0
theorem taketexts_txt(Wb w:World)(g:Nat)(a:Option Addr)(len cap:Nat)(zs:List Int)(st:Option Nat)(nn nf nu wd tg:Nat)(nr:Int)(hbd:∀z∈zs,0<=z/\z<=255)(h:RS Wb w g a len cap zs st) :
  Calls Tryz.prog 182 #[.agg #[.int .i64 nn,.int .i64 nf,.int .i64 nu,.int .i64 wd,.int .i64 (-1),.int .i64 tg,.int .i64 0,.int .i64 nr],.pointer (some ⟨g,0,none⟩)] w fun e w'=>∃s:Sl,e=.returned (.slice s.a s.n s.c)/\Hid (Own1 Wb.heap.size w' s (ptxF zs len (len+1) st).1/\RS Wb w' g a len cap zs (ptxF zs len (len+1) st).2):=by
 have HB0:Below w.heap.size w (w.alloc (.cells #[.int .i64 nn,.int .i64 nf,.int .i64 nu,.int .i64 wd,.int .i64 (-1),.int .i64 tg,.int .i64 0,.int .i64 nr] 201)):=(Below.refl _ _).alloc (Nat.le_refl _) _
 have HS:Hid (RS Wb (w.alloc (.cells #[.int .i64 nn,.int .i64 nf,.int .i64 nu,.int .i64 wd,.int .i64 (-1),.int .i64 tg,.int .i64 0,.int .i64 nr] 201)) g a len cap zs st):=h.below HB0
 have HX:Hid (FBox (w.alloc (.cells #[.int .i64 nn,.int .i64 nf,.int .i64 nu,.int .i64 wd,.int .i64 (-1),.int .i64 tg,.int .i64 0,.int .i64 nr] 201)) w.heap.size ⟨nn,nf,nu,wd,-1,tg,0,nr⟩):=FBox.new w ⟨nn,nf,nu,wd,-1,tg,0,nr⟩
 have hbg:Wb.heap.size<=w.heap.size:=h.kp.size
 have hgl:=h.gl
 have hlm:=h.hm
 have HBD:Hid (∀z∈zs,0<=z/\z<=255):=hbd
 obtain ⟨PR,hPR⟩:∃PR,ptxF zs len (len+1) st=PR:=⟨_,rfl⟩
 have HPR:Hid (ptxF zs len (len+1) st=PR):=hPR
 rw[hPR]
 have hst0:∀k,st=some k->k<=len:=h.rst.le
 have HST:Hid ((lft len st).toNat<=len):=by
  show _<=_
  cases st with
  |none=>simp[lft]
  |some k=>have:=hst0 k rfl;simp[lft]
 clear h HB0 hPR hbd hst0
 go_enter Tryz.func182,Tryz.ntmps182
 go_upto_region 1 with fail
 generalize (w.alloc (.cells #[.int .i64 nn,.int .i64 nf,.int .i64 nu,.int .i64 wd,.int .i64 (-1),.int .i64 tg,.int .i64 0,.int .i64 nr] 201))=W1 at*
 obtain ⟨b,hb⟩:∃b,b=w.heap.size:=⟨_,rfl⟩
 rw[<- hb] at HX hbg ⊢
 have Hb:Hid (b=w.heap.size):=hb
 clear hb
 obtain ⟨B1,hB1⟩:∃B1,B1=W1.heap.size:=⟨_,rfl⟩
 have HB1:Hid (B1=W1.heap.size/\b<B1/\Wb.heap.size<=B1):=⟨hB1,by have:=HX.out.2.2.2.2.2.2.2.2;omega,by have:=HX.out.2.2.2.2.2.2.2.2;omega⟩
 clear hB1
 go_wp2_with fail
 go_loopw [5] (fun v wr=>∃(s:Sl) (l:List ByteArray) (st':Option Nat) (k:Nat),v=.slice s.a s.n s.c/\s.n<=len/\Hid (s.n=l.length/\l.length+(lft len st').toNat<=len/\(lft len st').toNat<=k)/\Hid (PR=(l++(ptxF zs len k st').1,(ptxF zs len k st').2))/\Hid (Own1 B1 wr s l/\RS Wb wr g a len cap zs st'/\FBox wr b ⟨nn,nf,nu,wd,-1,tg,0,nr⟩/\B1<=wr.heap.size)) (fun v _=>len+1 - lenOf v)
 case atStart=>exact ⟨⟨none,0,0⟩,[],st,len+1,rfl,Nat.zero_le _,⟨rfl,by have:=HST.out;simp;omega,by have:=HST.out;omega⟩,by show PR=_;rw[<- HPR.out];simp,nil_own1 _ _,HS.out,HX.out,by have:=HB1.out;omega⟩
 case round=>
  obtain ⟨s,l,st',k,rfl,hsn,HN,HP,HG⟩:=hrel
  have s4:=HG.out.2.2.1.2.2.2.2.1
  have s6:=HG.out.2.2.1.2.2.2.2.2.2.1
  simp only at s4 s6
  have KL:Hid (Calls Tryz.prog 184 #[.pointer (some ⟨g,0,none⟩)] wr fun e w'=>e=.returned (.int .i64 (lft len st'))/\Hid (RSt w' g a len cap st'/\wr.grownBy w' (some g))):=rleft_any g a len cap zs st' wr HG.out.2.1.rst HG.out.2.1.rdW HG.out.2.1.hl HG.out.2.1.hc (by omega) HG.out.2.1.hd HG.out.2.1.off
  have hq1:¬ (s.n:Int) < -1:=by omega
  by_cases hlf:0<lft len st'
  ·have HMV:=lft_one len st' HG.out.2.1.rst.le hlf
   have HMV2:=lft_mv len (mv len st' 1) (val (tk zs st' 1)) HMV.2
   have hN:=HN.out
   obtain ⟨k',rfl⟩:∃k',k=k'+1:=⟨k - 1,by omega⟩
   have HP2:Hid (PR=((l++[lb (tk zs (mv len st' 1) (val (tk zs st' 1)))])++(ptxF zs len k' (mv len (mv len st' 1) (val (tk zs st' 1)))).1,(ptxF zs len k' (mv len (mv len st' 1) (val (tk zs st' 1)))).2)):=by
    show _=_
    rw[HP.out]
    conv=>lhs;unfold ptxF
    rw[if_pos hlf]
    simp
   have HN2:Hid (l.length+1+(lft len (mv len (mv len st' 1) (val (tk zs st' 1)))).toNat<=len/\(lft len (mv len (mv len st' 1) (val (tk zs st' 1)))).toNat<=k'/\s.n=l.length):=⟨by omega,by omega,hN.1⟩
   have hls:(lb (tk zs (mv len st' 1) (val (tk zs st' 1)))).size<=1000000000000:=by rw[lb_size];have:=tk_size zs len HG.out.2.1.hl (mv len st' 1) (val (tk zs st' 1));omega
   have KB:Hid (∀W,RS Wb W g a len cap zs st'->Calls Tryz.prog 201 #[.pointer (some ⟨g,0,none⟩)] W fun e w'=>e=.returned (.int .i64 (val (tk zs st' 1)))/\Hid (RSt w' g a len cap (mv len st' 1)/\W.grownBy w' (some g))):=fun W hW=>rbyte_any g a len cap zs st' W hW.rst hW.rdW hW.hl hW.hc (by omega) hW.hd hW.off
   generalize val (tk zs st' 1)=z at*
   generalize mv len st' 1=st1 at*
   have KT:Hid (∀W,RS Wb W g a len cap zs st1->Calls Tryz.prog 183 #[.pointer (some ⟨g,0,none⟩),.int .i64 z] W fun e w'=>∃s:Sl,e=.returned (.slice s.a s.n s.c)/\Hid (BOwn Wb.heap.size w' s (tk zs st1 z)/\RS Wb w' g a len cap zs (mv len st1 z)/\W.grownBy w' (some g))):=fun W hW=>rtake2 Wb W g a len cap zs st1 z hW
   have HLB:Hid (∀W ao n c,Rd W ao (tk zs st1 z)->(tk zs st1 z).length=n->(convert 46 9 (.slice ao n c)).run Tryz.prog W=.ok (.string (lb (tk zs st1 z))) W):=fun W ao n c g1 g2=>conv_rd ao n c _ W g1 g2
   generalize mv len st1 z=st2 at*
   generalize tk zs st1 z=tks at*
   generalize hfl:lb tks=f at*
   clear HMV HMV2 hN HN HP hfl
   go_wp2_with fail
   refine KL.out.mono ?_
   rintro e w1 ⟨rfl,H1⟩
   have HS1:Hid (Own1 B1 w1 s l/\RS Wb w1 g a len cap zs st'/\FBox w1 b ⟨nn,nf,nu,wd,-1,tg,0,nr⟩/\B1<=w1.heap.size):=⟨HG.out.1.kept H1.out.2 (by have:=HB1.out;omega),HG.out.2.1.to H1.out.1 H1.out.2,HG.out.2.2.1.grown H1.out.2 (by omega),Nat.le_trans HG.out.2.2.2 H1.out.2.size⟩
   clear KL H1 s4 s6 HG
   go_wp2_with fail
   refine (KB.out _ HS1.out.2.1).mono ?_
   rintro e w2 ⟨rfl,H2⟩
   have HS2:Hid (Own1 B1 w2 s l/\RS Wb w2 g a len cap zs st1/\FBox w2 b ⟨nn,nf,nu,wd,-1,tg,0,nr⟩/\B1<=w2.heap.size):=⟨HS1.out.1.kept H2.out.2 (by have:=HB1.out;omega),HS1.out.2.1.to H2.out.1 H2.out.2,HS1.out.2.2.1.grown H2.out.2 (by omega),Nat.le_trans HS1.out.2.2.2 H2.out.2.size⟩
   clear KB H2 HS1
   go_wp2_with fail
   refine (KT.out _ HS2.out.2.1).mono ?_
   rintro e w3 ⟨s3,rfl,H3⟩
   have HS3:Hid (Own1 B1 w3 s l/\RS Wb w3 g a len cap zs st2/\FBox w3 b ⟨nn,nf,nu,wd,-1,tg,0,nr⟩/\B1<=w3.heap.size):=⟨HS2.out.1.kept H3.out.2.2 (by have:=HB1.out;omega),H3.out.2.1,HS2.out.2.2.1.grown H3.out.2.2 (by omega),Nat.le_trans HS2.out.2.2.2 H3.out.2.2.size⟩
   have hcv:∀c,(convert 46 9 (.slice s3.a s3.n c)).run Tryz.prog w3=.ok (.string f) w3:=fun c=>HLB.out w3 s3.a s3.n c H3.out.1.rd.rd H3.out.1.rd.len
   have hnb:Below w3.heap.size w3 (w3.alloc (.cells #[.string f] 9)):=(Below.refl _ _).alloc (Nat.le_refl _) _
   have HS4:Hid (Own1 B1 (w3.alloc (.cells #[.string f] 9)) s l/\RS Wb (w3.alloc (.cells #[.string f] 9)) g a len cap zs st2/\FBox (w3.alloc (.cells #[.string f] 9)) b ⟨nn,nf,nu,wd,-1,tg,0,nr⟩/\B1<=(w3.alloc (.cells #[.string f] 9)).heap.size/\RdT (w3.alloc (.cells #[.string f] 9)) (some ⟨w3.heap.size,0,none⟩) [f]):=⟨HS3.out.1.stays hnb,HS3.out.2.1.below hnb,HS3.out.2.2.1.below hnb,Nat.le_trans HS3.out.2.2.2 hnb.size,one_rdT w3 f⟩
   have hl6:l.length<=1000000:=by have:=HN2.out;omega
   clear hnb H3 HS2 HS3 HLB KT
   generalize s3.a=za at*
   generalize s3.n=zn at*
   generalize s3.c=zc at*
   go_wp2_with (at_builtin;refine wp_text1 rfl _ _ rfl B1 s l rfl HS4.out.1 ⟨w3.heap.size,0,none⟩ rfl f HS4.out.2.2.2.2 hls hl6 HS4.out.2.2.2.1 ?_;intro t6 W6 HG6 HX6 HT6)
   refine ⟨⟨t6,l++[f],st2,k',rfl,by have:=HN2.out;have:=HT6.out;omega,⟨by rw[HT6.out];simp,by rw[List.length_append,List.length_singleton];exact HN2.out.1,HN2.out.2.1⟩,HP2,HG6.out,HS4.out.2.1.app HX6.out.1 (fun j hj=>Nat.le_trans HB1.out.2.2 (HX6.out.2 j hj)),HS4.out.2.2.1.app HX6.out.1 (fun j hj=>Nat.lt_of_lt_of_le HB1.out.2.1 (HX6.out.2 j hj)),Nat.le_trans HS4.out.2.2.2.1 HX6.out.1.size⟩,?_⟩
   have h1:=HT6.out
   have h2:=HN2.out
   show len+1 - t6.n<len+1 - s.n
   omega
  ·have HE:Hid (PR=(l,st')):=by
    show _=_
    rw[HP.out,ptxF_end zs len k st' hlf]
    simp
   clear HP HN
   go_wp2_with fail
   refine KL.out.mono ?_
   rintro e w1 ⟨rfl,H1⟩
   have HS1:Hid (Own1 B1 w1 s l/\RS Wb w1 g a len cap zs st'/\FBox w1 b ⟨nn,nf,nu,wd,-1,tg,0,nr⟩/\B1<=w1.heap.size):=⟨HG.out.1.kept H1.out.2 (by have:=HB1.out;omega),HG.out.2.1.to H1.out.1 H1.out.2,HG.out.2.2.1.grown H1.out.2 (by omega),Nat.le_trans HG.out.2.2.2 H1.out.2.size⟩
   clear KL H1 s4 s6 HG
   have s4:=HS1.out.2.2.1.2.2.2.2.1
   simp only at s4
   go_wp2_with fail
   obtain ⟨wz,hz⟩:∃z,z=w1:=⟨_,rfl⟩
   subst hz
   go_loopw [5] (fun v wr=>wr=wz/\v=.slice s.a s.n s.c) (fun _ _=>0)
   case atStart=>exact ⟨rfl,rfl⟩
   case round=>
    obtain ⟨hwz,rfl⟩:=hrel
    subst hwz
    go_wp2_with fail
    go_ret
    exact ⟨s,rfl,by rw[HE.out];exact HS1.out.1.mono HB1.out.2.2,by rw[HE.out];exact HS1.out.2.1⟩
theorem taketexts_no(Wb w:World)(g:Nat)(a:Option Addr)(len cap:Nat)(zs:List Int)(st:Option Nat)(nn nf nu wd tg:Nat)(nr:Int)(h:RS Wb w g a len cap zs st) :
  Calls Tryz.prog 182 #[.agg #[.int .i64 nn,.int .i64 nf,.int .i64 nu,.int .i64 wd,.int .i64 0,.int .i64 tg,.int .i64 0,.int .i64 nr],.pointer (some ⟨g,0,none⟩)] w fun e w'=>∃s:Sl,e=.returned (.slice s.a s.n s.c)/\Hid (Own1 Wb.heap.size w' s []/\RS Wb w' g a len cap zs st):=by
 have HB0:Below w.heap.size w (w.alloc (.cells #[.int .i64 nn,.int .i64 nf,.int .i64 nu,.int .i64 wd,.int .i64 0,.int .i64 tg,.int .i64 0,.int .i64 nr] 201)):=(Below.refl _ _).alloc (Nat.le_refl _) _
 have HS:Hid (RS Wb (w.alloc (.cells #[.int .i64 nn,.int .i64 nf,.int .i64 nu,.int .i64 wd,.int .i64 0,.int .i64 tg,.int .i64 0,.int .i64 nr] 201)) g a len cap zs st):=h.below HB0
 have HX:Hid (FBox (w.alloc (.cells #[.int .i64 nn,.int .i64 nf,.int .i64 nu,.int .i64 wd,.int .i64 0,.int .i64 tg,.int .i64 0,.int .i64 nr] 201)) w.heap.size ⟨nn,nf,nu,wd,0,tg,0,nr⟩):=FBox.new w ⟨nn,nf,nu,wd,0,tg,0,nr⟩
 clear h HB0
 go_enter Tryz.func182,Tryz.ntmps182
 go_upto_region 1 with fail
 generalize (w.alloc (.cells #[.int .i64 nn,.int .i64 nf,.int .i64 nu,.int .i64 wd,.int .i64 0,.int .i64 tg,.int .i64 0,.int .i64 nr] 201))=W1 at*
 generalize w.heap.size=b at*
 have s4:=HX.out.2.2.2.2.1
 have s6:=HX.out.2.2.2.2.2.2.1
 simp only at s4 s6
 go_wp2_with fail
 go_loopw [5] (fun v wr=>wr=W1/\v=.slice none 0 0) (fun _ _=>0)
 case atStart=>exact ⟨rfl,rfl⟩
 case round=>
  obtain ⟨hwz,rfl⟩:=hrel
  subst hwz
  go_wp2_with fail
  obtain ⟨wz,hz⟩:∃z,z=wr:=⟨_,rfl⟩
  subst hz
  go_loopw [5] (fun v wr=>wr=wz/\v=.slice none 0 0) (fun _ _=>0)
  case atStart=>exact ⟨rfl,rfl⟩
  case round=>
   obtain ⟨hwz,rfl⟩:=hrel
   subst hwz
   go_wp2_with fail
   go_ret
   exact ⟨⟨none,0,0⟩,rfl,nil_own1 _ _,HS.out⟩
def ptx2(zs:List Int)(len:Nat)(st:Option Nat):List ByteArray × Option Nat:=
 let z:=val (tk zs st 1)
 let s1:=mv len st 1
 let s2:=mv len s1 z
 ([lb (tk zs s1 z),lb (tk zs s2 (lft len s2))],mv len s2 (lft len s2))
theorem taketexts_two(Wb w:World)(g:Nat)(a:Option Addr)(len cap:Nat)(zs:List Int)(st:Option Nat)(nn nf nu wd tg:Nat)(nr:Int)(h:RS Wb w g a len cap zs st) :
  Calls Tryz.prog 182 #[.agg #[.int .i64 nn,.int .i64 nf,.int .i64 nu,.int .i64 wd,.int .i64 2,.int .i64 tg,.int .i64 1,.int .i64 nr],.pointer (some ⟨g,0,none⟩)] w fun e w'=>∃s:Sl,e=.returned (.slice s.a s.n s.c)/\Hid (Own1 Wb.heap.size w' s (ptx2 zs len st).1/\RS Wb w' g a len cap zs (ptx2 zs len st).2):=by
 have HB0:Below w.heap.size w (w.alloc (.cells #[.int .i64 nn,.int .i64 nf,.int .i64 nu,.int .i64 wd,.int .i64 2,.int .i64 tg,.int .i64 1,.int .i64 nr] 201)):=(Below.refl _ _).alloc (Nat.le_refl _) _
 have HS:Hid (RS Wb (w.alloc (.cells #[.int .i64 nn,.int .i64 nf,.int .i64 nu,.int .i64 wd,.int .i64 2,.int .i64 tg,.int .i64 1,.int .i64 nr] 201)) g a len cap zs st):=h.below HB0
 have HX:Hid (FBox (w.alloc (.cells #[.int .i64 nn,.int .i64 nf,.int .i64 nu,.int .i64 wd,.int .i64 2,.int .i64 tg,.int .i64 1,.int .i64 nr] 201)) w.heap.size ⟨nn,nf,nu,wd,2,tg,1,nr⟩):=FBox.new w ⟨nn,nf,nu,wd,2,tg,1,nr⟩
 have hbg:Wb.heap.size<=w.heap.size:=h.kp.size
 have hgl:=h.gl
 have hlm:=h.hm
 have hhl:=h.hl
 obtain ⟨PR,hPR⟩:∃PR,ptx2 zs len st=PR:=⟨_,rfl⟩
 have HPR:Hid (PR=([lb (tk zs (mv len st 1) (val (tk zs st 1))),lb (tk zs (mv len (mv len st 1) (val (tk zs st 1))) (lft len (mv len (mv len st 1) (val (tk zs st 1)))))],mv len (mv len (mv len st 1) (val (tk zs st 1))) (lft len (mv len (mv len st 1) (val (tk zs st 1)))))):=by show _=_;rw[<- hPR];rfl
 rw[hPR]
 have KB:Hid (∀W,RS Wb W g a len cap zs st->Calls Tryz.prog 201 #[.pointer (some ⟨g,0,none⟩)] W fun e w'=>e=.returned (.int .i64 (val (tk zs st 1)))/\Hid (RSt w' g a len cap (mv len st 1)/\W.grownBy w' (some g))):=fun W hW=>rbyte_any g a len cap zs st W hW.rst hW.rdW hW.hl hW.hc (by omega) hW.hd hW.off
 clear h HB0 hPR
 generalize val (tk zs st 1)=z at*
 generalize mv len st 1=st1 at*
 have KT:Hid (∀W,RS Wb W g a len cap zs st1->Calls Tryz.prog 183 #[.pointer (some ⟨g,0,none⟩),.int .i64 z] W fun e w'=>∃s:Sl,e=.returned (.slice s.a s.n s.c)/\Hid (BOwn Wb.heap.size w' s (tk zs st1 z)/\RS Wb w' g a len cap zs (mv len st1 z)/\W.grownBy w' (some g))):=fun W hW=>rtake2 Wb W g a len cap zs st1 z hW
 have HLB:Hid (∀W ao n c,Rd W ao (tk zs st1 z)->(tk zs st1 z).length=n->(convert 46 9 (.slice ao n c)).run Tryz.prog W=.ok (.string (lb (tk zs st1 z))) W):=fun W ao n c g1 g2=>conv_rd ao n c _ W g1 g2
 have hls:(lb (tk zs st1 z)).size<=1000000000000:=by rw[lb_size];have:=tk_size zs len hhl st1 z;omega
 generalize mv len st1 z=st2 at*
 generalize tk zs st1 z=tks at*
 generalize lb tks=f at*
 have KL:Hid (∀W,RS Wb W g a len cap zs st2->Calls Tryz.prog 184 #[.pointer (some ⟨g,0,none⟩)] W fun e w'=>e=.returned (.int .i64 (lft len st2))/\Hid (RSt w' g a len cap st2/\W.grownBy w' (some g))):=fun W hW=>rleft_any g a len cap zs st2 W hW.rst hW.rdW hW.hl hW.hc (by omega) hW.hd hW.off
 have KT2:Hid (∀W,RS Wb W g a len cap zs st2->Calls Tryz.prog 183 #[.pointer (some ⟨g,0,none⟩),.int .i64 (lft len st2)] W fun e w'=>∃s:Sl,e=.returned (.slice s.a s.n s.c)/\Hid (BOwn Wb.heap.size w' s (tk zs st2 (lft len st2))/\RS Wb w' g a len cap zs (mv len st2 (lft len st2))/\W.grownBy w' (some g))):=fun W hW=>rtake2 Wb W g a len cap zs st2 (lft len st2) hW
 have HLB2:Hid (∀W ao n c,Rd W ao (tk zs st2 (lft len st2))->(tk zs st2 (lft len st2)).length=n->(convert 46 9 (.slice ao n c)).run Tryz.prog W=.ok (.string (lb (tk zs st2 (lft len st2)))) W):=fun W ao n c g1 g2=>conv_rd ao n c _ W g1 g2
 have hls2:(lb (tk zs st2 (lft len st2))).size<=1000000000000:=by rw[lb_size];have:=tk_size zs len hhl st2 (lft len st2);omega
 generalize lft len st2=y at*
 generalize mv len st2 y=st3 at*
 generalize tk zs st2 y=tks2 at*
 generalize lb tks2=f2 at*
 clear hhl
 go_enter Tryz.func182,Tryz.ntmps182
 go_upto_region 1 with fail
 generalize (w.alloc (.cells #[.int .i64 nn,.int .i64 nf,.int .i64 nu,.int .i64 wd,.int .i64 2,.int .i64 tg,.int .i64 1,.int .i64 nr] 201))=W1 at*
 obtain ⟨b,hb⟩:∃b,b=w.heap.size:=⟨_,rfl⟩
 rw[<- hb] at HX hbg ⊢
 have Hb:Hid (b=w.heap.size):=hb
 clear hb
 obtain ⟨B1,hB1⟩:∃B1,B1=W1.heap.size:=⟨_,rfl⟩
 have HB1:Hid (B1=W1.heap.size/\b<B1/\Wb.heap.size<=B1):=⟨hB1,by have:=HX.out.2.2.2.2.2.2.2.2;omega,by have:=HX.out.2.2.2.2.2.2.2.2;omega⟩
 clear hB1
 go_wp2_with fail
 go_loopw [5] (fun v wr=>∃(s:Sl) (l:List ByteArray) (st':Option Nat),v=.slice s.a s.n s.c/\((s.n=0/\l=[]/\st'=st)∨(s.n=1/\l=[f]/\st'=st2))/\Hid (Own1 B1 wr s l/\RS Wb wr g a len cap zs st'/\FBox wr b ⟨nn,nf,nu,wd,2,tg,1,nr⟩/\B1<=wr.heap.size)) (fun v _=>2 - lenOf v)
 case atStart=>exact ⟨⟨none,0,0⟩,[],st,rfl,.inl ⟨rfl,rfl,rfl⟩,nil_own1 _ _,HS.out,HX.out,by have:=HB1.out;omega⟩
 case round=>
  obtain ⟨s,l,st',rfl,hph,HG⟩:=hrel
  have s4:=HG.out.2.2.1.2.2.2.2.1
  have s6:=HG.out.2.2.1.2.2.2.2.2.2.1
  simp only at s4 s6
  rcases hph with ⟨hn0,rfl,rfl⟩|⟨hn0,rfl,rfl⟩
  ·have hq:(s.n:Int)<1:=by omega
   have HN0:Hid (s.n=0):=hn0
   clear hn0
   have HS1:Hid (Own1 B1 wr s []/\RS Wb wr g a len cap zs st'/\FBox wr b ⟨nn,nf,nu,wd,2,tg,1,nr⟩/\B1<=wr.heap.size):=HG
   clear KL KT2 HLB2
   go_wp2_with fail
   refine (KB.out _ HS1.out.2.1).mono ?_
   rintro e w2 ⟨rfl,H2⟩
   have HS2:Hid (Own1 B1 w2 s []/\RS Wb w2 g a len cap zs st1/\FBox w2 b ⟨nn,nf,nu,wd,2,tg,1,nr⟩/\B1<=w2.heap.size):=⟨HS1.out.1.kept H2.out.2 (by have:=HB1.out;omega),HS1.out.2.1.to H2.out.1 H2.out.2,HS1.out.2.2.1.grown H2.out.2 (by omega),Nat.le_trans HS1.out.2.2.2 H2.out.2.size⟩
   clear KB H2 HS1 HG
   go_wp2_with fail
   refine (KT.out _ HS2.out.2.1).mono ?_
   rintro e w3 ⟨s3,rfl,H3⟩
   have HS3:Hid (Own1 B1 w3 s []/\RS Wb w3 g a len cap zs st2/\FBox w3 b ⟨nn,nf,nu,wd,2,tg,1,nr⟩/\B1<=w3.heap.size):=⟨HS2.out.1.kept H3.out.2.2 (by have:=HB1.out;omega),H3.out.2.1,HS2.out.2.2.1.grown H3.out.2.2 (by omega),Nat.le_trans HS2.out.2.2.2 H3.out.2.2.size⟩
   have hcv:∀c,(convert 46 9 (.slice s3.a s3.n c)).run Tryz.prog w3=.ok (.string f) w3:=fun c=>HLB.out w3 s3.a s3.n c H3.out.1.rd.rd H3.out.1.rd.len
   have hnb:Below w3.heap.size w3 (w3.alloc (.cells #[.string f] 9)):=(Below.refl _ _).alloc (Nat.le_refl _) _
   have HS4:Hid (Own1 B1 (w3.alloc (.cells #[.string f] 9)) s []/\RS Wb (w3.alloc (.cells #[.string f] 9)) g a len cap zs st2/\FBox (w3.alloc (.cells #[.string f] 9)) b ⟨nn,nf,nu,wd,2,tg,1,nr⟩/\B1<=(w3.alloc (.cells #[.string f] 9)).heap.size/\RdT (w3.alloc (.cells #[.string f] 9)) (some ⟨w3.heap.size,0,none⟩) [f]):=⟨HS3.out.1.stays hnb,HS3.out.2.1.below hnb,HS3.out.2.2.1.below hnb,Nat.le_trans HS3.out.2.2.2 hnb.size,one_rdT w3 f⟩
   clear hnb H3 HS2 HS3 HLB KT
   generalize s3.a=za at*
   generalize s3.n=zn at*
   generalize s3.c=zc at*
   go_wp2_with (at_builtin;refine wp_text1 rfl _ _ rfl B1 s [] rfl HS4.out.1 ⟨w3.heap.size,0,none⟩ rfl f HS4.out.2.2.2.2 hls (by simp) HS4.out.2.2.2.1 ?_;intro t6 W6 HG6 HX6 HT6)
   refine ⟨⟨t6,[f],st2,rfl,.inr ⟨HT6.out,rfl,rfl⟩,HG6.out,HS4.out.2.1.app HX6.out.1 (fun j hj=>Nat.le_trans HB1.out.2.2 (HX6.out.2 j hj)),HS4.out.2.2.1.app HX6.out.1 (fun j hj=>Nat.lt_of_lt_of_le HB1.out.2.1 (HX6.out.2 j hj)),Nat.le_trans HS4.out.2.2.2.1 HX6.out.1.size⟩,?_⟩
   have h1:=HT6.out
   have h2:=HN0.out
   simp only[List.length_nil] at h1
   show 2 - t6.n<2 - s.n
   omega
  ·have hq:¬ (s.n:Int)<1:=by omega
   have HN0:Hid (s.n=1):=hn0
   clear hn0
   clear KB KT HLB
   go_wp2_with fail
   obtain ⟨wz,hz⟩:∃z,z=wr:=⟨_,rfl⟩
   subst hz
   go_loopw [5] (fun v wr=>∃(s':Sl) (l:List ByteArray) (st'':Option Nat),v=.slice s'.a s'.n s'.c/\((s'.n=1/\l=[f]/\st''=st')∨(s'.n=2/\l=[f,f2]/\st''=st3))/\Hid (Own1 B1 wr s' l/\RS Wb wr g a len cap zs st''/\FBox wr b ⟨nn,nf,nu,wd,2,tg,1,nr⟩/\B1<=wr.heap.size)) (fun v _=>3 - lenOf v)
   case atStart=>exact ⟨s,[f],st',rfl,.inl ⟨HN0.out,rfl,rfl⟩,HG.out⟩
   case round=>
    clear s4 s6 HG hq HN0
    obtain ⟨s',l,st'',rfl,hph,HG⟩:=hrel
    have s4:=HG.out.2.2.1.2.2.2.2.1
    simp only at s4
    rcases hph with ⟨hn0,rfl,rfl⟩|⟨hn0,rfl,rfl⟩
    ·have hq:(s'.n:Int)<2:=by omega
     have HN0:Hid (s'.n=1):=hn0
     clear hn0
     go_wp2_with fail
     refine (KL.out _ HG.out.2.1).mono ?_
     rintro e w2 ⟨rfl,H2⟩
     have HS2:Hid (Own1 B1 w2 s' [f]/\RS Wb w2 g a len cap zs st''/\FBox w2 b ⟨nn,nf,nu,wd,2,tg,1,nr⟩/\B1<=w2.heap.size):=⟨HG.out.1.kept H2.out.2 (by have:=HB1.out;omega),HG.out.2.1.to H2.out.1 H2.out.2,HG.out.2.2.1.grown H2.out.2 (by omega),Nat.le_trans HG.out.2.2.2 H2.out.2.size⟩
     clear KL H2 HG s4
     go_wp2_with fail
     refine (KT2.out _ HS2.out.2.1).mono ?_
     rintro e w3 ⟨s3,rfl,H3⟩
     have HS3:Hid (Own1 B1 w3 s' [f]/\RS Wb w3 g a len cap zs st3/\FBox w3 b ⟨nn,nf,nu,wd,2,tg,1,nr⟩/\B1<=w3.heap.size):=⟨HS2.out.1.kept H3.out.2.2 (by have:=HB1.out;omega),H3.out.2.1,HS2.out.2.2.1.grown H3.out.2.2 (by omega),Nat.le_trans HS2.out.2.2.2 H3.out.2.2.size⟩
     have hcv:∀c,(convert 46 9 (.slice s3.a s3.n c)).run Tryz.prog w3=.ok (.string f2) w3:=fun c=>HLB2.out w3 s3.a s3.n c H3.out.1.rd.rd H3.out.1.rd.len
     have hnb:Below w3.heap.size w3 (w3.alloc (.cells #[.string f2] 9)):=(Below.refl _ _).alloc (Nat.le_refl _) _
     have HS4:Hid (Own1 B1 (w3.alloc (.cells #[.string f2] 9)) s' [f]/\RS Wb (w3.alloc (.cells #[.string f2] 9)) g a len cap zs st3/\FBox (w3.alloc (.cells #[.string f2] 9)) b ⟨nn,nf,nu,wd,2,tg,1,nr⟩/\B1<=(w3.alloc (.cells #[.string f2] 9)).heap.size/\RdT (w3.alloc (.cells #[.string f2] 9)) (some ⟨w3.heap.size,0,none⟩) [f2]):=⟨HS3.out.1.stays hnb,HS3.out.2.1.below hnb,HS3.out.2.2.1.below hnb,Nat.le_trans HS3.out.2.2.2 hnb.size,one_rdT w3 f2⟩
     clear hnb H3 HS2 HS3 HLB2 KT2
     generalize s3.a=za at*
     generalize s3.n=zn at*
     generalize s3.c=zc at*
     go_wp2_with (at_builtin;refine wp_text1 rfl _ _ rfl B1 s' [f] rfl HS4.out.1 ⟨w3.heap.size,0,none⟩ rfl f2 HS4.out.2.2.2.2 hls2 (by simp) HS4.out.2.2.2.1 ?_;intro t6 W6 HG6 HX6 HT6)
     refine ⟨⟨t6,[f,f2],st3,rfl,.inr ⟨HT6.out,rfl,rfl⟩,HG6.out,HS4.out.2.1.app HX6.out.1 (fun j hj=>Nat.le_trans HB1.out.2.2 (HX6.out.2 j hj)),HS4.out.2.2.1.app HX6.out.1 (fun j hj=>Nat.lt_of_lt_of_le HB1.out.2.1 (HX6.out.2 j hj)),Nat.le_trans HS4.out.2.2.2.1 HX6.out.1.size⟩,?_⟩
     have h1:=HT6.out
     have h2:=HN0.out
     simp only[List.length_cons,List.length_nil] at h1
     show 3 - t6.n<3 - s'.n
     omega
    ·have hq:¬ (s'.n:Int)<2:=by omega
     clear hn0
     clear KL KT2 HLB2
     go_wp2_with fail
     go_ret
     exact ⟨s',rfl,by rw[HPR.out];exact HG.out.1.mono HB1.out.2.2,by rw[HPR.out];exact HG.out.2.1⟩
theorem UOwn.keepTy{B:Nat}{w w':World}{s:Sl}{us:List Nat}(h:UOwn B w s us)(hb:∀j,B<=j->j<w.heap.size->(∃zs,BlkV w j 43 zs)->w'.heap[j]?=w.heap[j]?):UOwn B w' s us:=by
 obtain ⟨xs,h1,h2,h3⟩:=h
 refine ⟨xs,?_,h2,h3⟩
 rcases h1 with h1|⟨g,e,hg,hblk,hn⟩
 ·exact .inl h1
 ·exact .inr ⟨g,e,hg,hblk.same (hb g hg hblk.lt ⟨_,hblk⟩),hn⟩
theorem blk_ty{w:World}{j:Nat}{t1 t2:TypeId}{xs ys:List Value}(h1:BlkV w j t1 xs)(h2:BlkV w j t2 ys):t1=t2:=by
 have hh:w.heap[j]?=some (.cells xs.toArray t1 (0,0)):=h1
 have hh':w.heap[j]?=some (.cells ys.toArray t2 (0,0)):=h2
 rw[hh] at hh'
 injection hh' with hh'
 injection hh'
theorem st_nl{w:World}{ops:Array Oper}{o:Oper}{a:Act}{K:Act->World->Prop}{Q:Exit->Act->World->Prop}{E:Prop}(hgd:o.guard=none)(s x:Operand)
  (ho:o.op=.call { callee:=.builtin .append,args:=#[s,x],argTypes:=#[44,44] }) (B:Nat) (s1 s2:Sl) (n1 n2:List (List ByteArray)) (hs:a.eval s=.slice s1.a s1.n s1.c) (hx:a.eval x=.slice s2.a s2.n s2.c) (h1:OwnN B w (.slice s1.a s1.n s1.c) n1) (h2:OwnN B w (.slice s2.a s2.n s2.c) n2) (hn:n1.length+n2.length<=1000) (hB:B<=w.heap.size)
  (h:∀(t':Sl) w',Hid (OwnN B w' (.slice t'.a t'.n t'.c) (n1++n2))->Hid (∃o,w.grownBy w' o/\∀j,o=some j->B<=j/\∃zs,BlkV w j 23 zs)->K (a.put o.dst (.slice t'.a t'.n t'.c)) w') :
  if Region.wanted o (yielded ops a.tmps)=true then Oper.wp Tryz.prog o a w K Q else E:=by
 obtain ⟨xs,o1,q1⟩:=h1
 obtain ⟨ys,o2,q2⟩:=h2
 have hl2:=o2.le
 obtain ⟨ao2,e2,_⟩:=o2.shape
 have hsn:s2.n=n2.length:=by injection e2
 have o2':OwnV B w 23 (.slice s2.a n2.length s2.c) n2.length ys:=by rw[hsn] at o2;exact o2
 have hrd:=o2'.rd n2.length
 have hlen:(ys.take n2.length).length=s2.n:=by rw[List.length_take,hsn];exact Nat.min_eq_left hl2.1
 have hone:∀u∈ys.take n2.length,u.oneCell'=true:=by
  intro u hu
  obtain ⟨i,hi,rfl⟩:=List.getElem_of_mem hu
  rw[List.length_take] at hi
  obtain ⟨z,e1,_⟩:=q2 i (by omega)
  rw[List.getElem_take]
  rw[List.getElem?_eq_getElem (by omega)] at e1
  injection e1 with e1
  rw[e1]
  rfl
 refine step_append_row tyNs hgd s x 44 ho B _ n1.length xs hs o1 _ s2.n (ys.take n2.length) hx (src_of Tryz.underlying44 hrd hlen hone) (by omega) (by simp only[maxLen];omega) hB ?_
 intro v' w' xs' r1 r2 r3 r4
 obtain ⟨ao',rfl,_⟩:=r1.out.shape
 have hle:=r1.out.le
 have hx':xs'.take (n1.length+s2.n)=xs.take n1.length++ys.take n2.length:=r2.out
 have hl1:(xs.take n1.length).length=n1.length:=by have:=o1.le.1;rw[List.length_take];omega
 have hB1:∀j,Value.ownBlock (.slice s1.a s1.n s1.c)=some j->B<=j/\∃zs,BlkV w j 23 zs:=by
  intro j hj
  refine ⟨o1.lt j hj,?_⟩
  rcases o1 with ⟨e3,_⟩|⟨g,e3,_,hblk,_⟩
  ·rw[e3] at hj;cases hj
  ·rw[e3] at hj
   have e4:g=j:=(Option.some.inj hj)
   subst e4
   exact ⟨_,hblk⟩
 have hkb:∀j,B<=j->j<w.heap.size->(∃zs,BlkV w j 9 zs)->w'.heap[j]?=w.heap[j]?:=by
  rintro j _ hj ⟨zs,hz⟩
  refine r3.out.block j hj (fun e=>?_)
  obtain ⟨_,zs',hz'⟩:=hB1 j e.symm
  exact absurd (blk_ty hz hz') (by decide)
 refine h ⟨ao',n1.length+s2.n,xs'.length⟩ w' ⟨xs',by rw[List.length_append,<- hsn];exact r1.out,fun i hi=>?_⟩ ⟨_,r3.out,hB1⟩
 rw[List.length_append] at hi
 by_cases hlt:i<n1.length
 ·obtain ⟨z,e1,e3⟩:=q1 i hlt
  refine ⟨z,?_,?_⟩
  ·have h3:(xs'.take (n1.length+s2.n))[i]?=(xs.take n1.length++ys.take n2.length)[i]?:=by rw[hx']
   rw[List.getElem?_take_of_lt (by omega),List.getElem?_append_left (by omega),List.getElem?_take_of_lt hlt,e1] at h3
   exact h3
  ·rw[List.getElem_append_left hlt]
   exact e3.keep hkb
 ·obtain ⟨z,e1,e3⟩:=q2 (i - n1.length) (by omega)
  refine ⟨z,?_,?_⟩
  ·have h3:(xs'.take (n1.length+s2.n))[i]?=(xs.take n1.length++ys.take n2.length)[i]?:=by rw[hx']
   rw[List.getElem?_take_of_lt (by omega),List.getElem?_append_right (by omega),hl1,List.getElem?_take_of_lt (by omega),e1] at h3
   exact h3
  ·rw[List.getElem_append_right (by omega)]
   exact e3.keep hkb
def ptxs(f:Fs)(zs:List Int)(len:Nat)(st:Option Nat):List ByteArray × Option Nat:=if f.nt = -1 then ptxF zs len (len+1) st else if f.nt=2 then ptx2 zs len st else ([],st)
theorem taketexts_any(t:Nat)(Wb w:World)(g:Nat)(a:Option Addr)(len cap:Nat)(zs:List Int)(st:Option Nat)(h:RS Wb w g a len cap zs st) :
  Calls Tryz.prog 182 #[.agg #[.int .i64 (fs t).nn,.int .i64 (fs t).nf,.int .i64 (fs t).nu,.int .i64 (fs t).wd,.int .i64 (fs t).nt,.int .i64 (fs t).tg,.int .i64 (fs t).tl,.int .i64 (fs t).nr],.pointer (some ⟨g,0,none⟩)] w fun e w'=>∃s:Sl,e=.returned (.slice s.a s.n s.c)/\Hid (Own1 Wb.heap.size w' s (ptxs (fs t) zs len st).1/\RS Wb w' g a len cap zs (ptxs (fs t) zs len st).2):=by
 rcases fs_cases t with ⟨ht,e⟩|⟨ht,e⟩|⟨ht,e⟩|⟨ht,e⟩|⟨ht,e⟩|⟨ht,e⟩|⟨ht,e⟩|⟨ht,e⟩|⟨ht,e⟩
 all_goals rw[e]
 all_goals first
  |exact taketexts_no Wb w g a len cap zs st _ _ _ _ _ _ h
  |exact taketexts_txt Wb w g a len cap zs st _ _ _ _ _ _ h.rd.2 h
  |exact taketexts_two Wb w g a len cap zs st _ _ _ _ _ _ h
def pread(f:Fs)(zs:List Int)(len:Nat):Dat × Option Nat:=
 let r1:=pnms zs len (some 0) f.nf
 let r2:=pnus zs len r1.2 f.wd f.nu
 let r3:=pnms zs len r2.2 (f.nn - f.nf)
 let r4:=ptxs f zs len r3.2
 let r5:List Int × Option Nat:=if f.nr=0 then ([],r4.2) else (tk zs r4.2 (lft len r4.2),mv len r4.2 (lft len r4.2))
 (⟨r1.1++r3.1,r2.1,r4.1,r5.1⟩,r5.2)
def Stp(zs:List Int)(st st':Option Nat)(b:List Int):Prop:=∀q,st'=some q->∃p,st=some p/\(p<=zs.length->q<=zs.length/\zs.drop p=b++zs.drop q)
theorem Stp.nil(zs:List Int)(st:Option Nat):Stp zs st st []:=fun q hq=>⟨q,hq,fun h=>⟨h,rfl⟩⟩
theorem Stp.trans{zs:List Int}{a b c:Option Nat}{x y:List Int}(h1:Stp zs a b x)(h2:Stp zs b c y):Stp zs a c (x++y):=by
 intro q hq
 obtain ⟨p,e,hp⟩:=h2 q hq
 obtain ⟨p0,e0,hp0⟩:=h1 p e
 refine ⟨p0,e0,fun h=>?_⟩
 obtain ⟨h3,h4⟩:=hp0 h
 obtain ⟨h5,h6⟩:=hp h3
 exact ⟨h5,by rw[h4,h6,List.append_assoc]⟩
theorem Stp.take(zs:List Int)(st:Option Nat)(n:Int):Stp zs st (mv zs.length st n) (tk zs st n):=by
 intro q hq
 cases st with
 |none=>cases hq
 |some k=>
  simp only[mv] at hq
  split at hq
  ·rename_i h
   cases hq
   refine ⟨k,rfl,fun _=>⟨by omega,?_⟩⟩
   simp only[tk]
   rw[if_pos h,<- List.drop_drop,List.take_append_drop]
  ·cases hq
theorem dropd{zs:List Int}{p:Nat}{b R:List Int}(h:zs.drop p=b++R)(hp:p<=zs.length):zs=zs.take p++(b++R)/\(zs.take p).length=p/\zs.drop (p+b.length)=R/\p+b.length<=zs.length:=by
 refine ⟨by rw[<- h,List.take_append_drop],by simp;omega,?_,?_⟩
 ·rw[<- List.drop_drop,h];simp
 ·have:=congrArg List.length h
  simp at this;omega
theorem tk_some{zs:List Int}{k:Nat}{n:Int}{q:Nat}(h:mv zs.length (some k) n=some q):(tk zs (some k) n).length=n.toNat/\0<=n/\q=k+n.toNat:=by
 simp only[mv] at h
 split at h
 ·rename_i hc
  cases h
  simp only[tk]
  rw[if_pos hc]
  refine ⟨by simp;omega,hc.1,trivial⟩
 ·cases h
theorem numB_val(l:List Int)(wd:Nat)(hw:wd=1∨wd=2∨wd=4)(hl:l.length=wd)(hb:∀z∈l,0<=z/\z<=255):numB (val l).toNat wd=l:=by
 rcases hw with rfl|rfl|rfl
 ·obtain ⟨a,rfl⟩:=len1 hl
  have:=hb a (by simp)
  simp[numB,val];omega
 ·obtain ⟨a,b,rfl⟩:=len2 hl
  have h1:=hb a (by simp)
  have h2:=hb b (by simp)
  simp[numB,val];omega
 ·rcases l with _|⟨a,_|⟨b,_|⟨c,_|⟨d,_|⟨e,l⟩⟩⟩⟩⟩ <;> simp at hl
  have h1:=hb a (by simp)
  have h2:=hb b (by simp)
  have h3:=hb c (by simp)
  have h4:=hb d (by simp)
  simp[numB,val];omega
theorem Stp.num(zs:List Int)(hb:∀z∈zs,0<=z/\z<=255)(st:Option Nat)(wd:Nat)(hw:wd=1∨wd=2∨wd=4):Stp zs st (mv zs.length st (wd:Int)) (numB (pnu zs st wd) wd):=by
 intro q hq
 have h:=Stp.take zs st (wd:Int) q hq
 obtain ⟨p,rfl,h⟩:=h
 refine ⟨p,rfl,fun hp=>?_⟩
 have hl:=(tk_some hq).1
 unfold pnu
 rw[numB_val _ wd hw (by omega) (tk_bytes zs _ _ hb)]
 exact h hp
theorem Stp.us(zs:List Int)(hb:∀z∈zs,0<=z/\z<=255)(st:Option Nat)(wd:Nat)(hw:wd=1∨wd=2∨wd=4):∀k,Stp zs st (pnus zs zs.length st wd k).2 ((pnus zs zs.length st wd k).1.flatMap fun n=>numB n wd)
 |0=>Stp.nil zs st
 |k+1=>by
  have ih:=Stp.us zs hb st wd hw k
  have:=ih.trans (Stp.num zs hb (pnus zs zs.length st wd k).2 wd hw)
  simpa [pnus] using this
theorem rgo_sound(l:List Int)(hb:∀z∈l,0<=z/\z<=255):∀(n p:Nat) (out o:List ByteArray) (q:Nat),l.length - p<=n->rgo l p out=some (o,q)->∃r,o=out++r/\q<=l.length/\l.drop p=nby r++(0::l.drop q):=by
 intro n
 induction n with
 |zero=>
  intro p out o q hn h
  rw[rgo_end l p out (by omega)] at h
  cases h
 |succ n ih=>
  intro p out o q hn h
  by_cases h1:p<l.length/\l.getD p 0<=63
  ·have hd:l.drop p=l.getD p 0::l.drop (p+1):=by
    rw[List.drop_eq_getElem_cons h1.1]
    simp[List.getD_eq_getElem?_getD,h1.1]
   have hc:0<=l.getD p 0:=by
    have:=hb l[p] (List.getElem_mem h1.1)
    simpa [List.getD_eq_getElem?_getD,h1.1] using this.1
   by_cases h0:l.getD p 0=0
   ·rw[rgo_zero l p out h1 h0] at h
    cases h
    refine ⟨[],by simp,by omega,?_⟩
    rw[hd,h0]
    rfl
   ·by_cases h2:(l.length:Int) - ((p:Int)+1)<l.getD p 0
    ·rw[rgo_short l p out h1 h0 h2] at h;cases h
    ·rw[rgo_step l p out h1 h0 h2] at h
     obtain ⟨r,e1,e2,e3⟩:=ih _ _ _ _ (by omega) h
     refine ⟨lb ((l.drop (p+1)).take (l.getD p 0).toNat)::r,by rw[e1];simp,e2,?_⟩
     have hlen:((l.drop (p+1)).take (l.getD p 0).toNat).length=(l.getD p 0).toNat:=by rw[List.length_take,List.length_drop];omega
     have hnm:nums (lb ((l.drop (p+1)).take (l.getD p 0).toNat))=(l.drop (p+1)).take (l.getD p 0).toNat:=nums_back _ fun z hz=>hb z (List.mem_of_mem_drop (List.mem_of_mem_take hz))
     have hf:nby (lb ((l.drop (p+1)).take (l.getD p 0).toNat)::r)=((lb ((l.drop (p+1)).take (l.getD p 0).toNat)).size:Int)::(nums (lb ((l.drop (p+1)).take (l.getD p 0).toNat))++nby r):=by simp[nby]
     rw[hf,lb_size,hlen,hnm,hd]
     have hz:(((l.getD p 0).toNat:Nat):Int)=l.getD p 0:=by omega
     have e4:(l.drop (p+1)).drop (l.getD p 0).toNat=l.drop (p+1+(l.getD p 0).toNat):=List.drop_drop
     rw[hz,List.cons_append,List.append_assoc,<- e3,<- e4,List.take_append_drop]
  ·rw[rgo_end l p out h1] at h;cases h
theorem nread_sound{zs:List Int}(hb:∀z∈zs,0<=z/\z<=255){p:Nat}(h:(nread zs (p:Int)).2.2=0):∃q:Nat,(nread zs (p:Int)).2.1=(q:Int)/\q<=zs.length/\zs.drop p=nmB (nread zs (p:Int)).1++zs.drop q:=by
 by_cases h1:(p:Int)<0∨(zs.length:Int)<=(p:Int)
 ·have e:nread zs (p:Int)=([],0,2):=by unfold nread;rw[if_pos h1]
  rw[e] at h
  exact absurd h (by decide)
 ·cases hr:rgo zs p [] with
  |none=>
   have e:nread zs (p:Int)=([],0,8):=by unfold nread;rw[if_neg h1,Int.toNat_natCast,hr]
   rw[e] at h
   exact absurd h (by decide)
  |some x=>
   obtain ⟨o,q⟩:=x
   by_cases hk:nck o=0
   ·have e:nread zs (p:Int)=(o,(q:Int),0):=by unfold nread;rw[if_neg h1,Int.toNat_natCast,hr];simp[hk]
    obtain ⟨r,e1,e2,e3⟩:=rgo_sound zs hb _ p [] o q (Nat.le_refl _) hr
    rw[e]
    refine ⟨q,rfl,e2,?_⟩
    simp at e1
    subst e1
    rw[e3]
    simp[nmB]
   ·have e:nread zs (p:Int)=([],0,8):=by unfold nread;rw[if_neg h1,Int.toNat_natCast,hr];simp[hk]
    rw[e] at h
    exact absurd h (by decide)
theorem Stp.nm(zs:List Int)(hb:∀z∈zs,0<=z/\z<=255)(st:Option Nat):Stp zs st (pnm1 zs zs.length st).2 (nmB (pnm1 zs zs.length st).1):=by
 intro q hq
 cases st with
 |none=>cases hq
 |some p=>
  refine ⟨p,rfl,fun hp=>?_⟩
  have hq':jm zs.length (some p) (if (nread zs (p:Int)).2.2=0 then (nread zs (p:Int)).2.1 else -1)=some q:=hq
  show q<=zs.length/\zs.drop p=nmB (nread zs (p:Int)).1++zs.drop q
  by_cases h0:(nread zs (p:Int)).2.2=0
  ·obtain ⟨r,e1,e2,e3⟩:=nread_sound hb h0
   rw[if_pos h0,e1] at hq'
   simp only[jm] at hq'
   rw[if_pos ⟨by omega,by omega⟩,Int.toNat_natCast] at hq'
   cases hq'
   exact ⟨e2,e3⟩
  ·rw[if_neg h0] at hq'
   simp only[jm] at hq'
   rw[if_neg (by omega)] at hq'
   cases hq'
theorem Stp.nms(zs:List Int)(hb:∀z∈zs,0<=z/\z<=255)(st:Option Nat):∀k,Stp zs st (pnms zs zs.length st k).2 ((pnms zs zs.length st k).1.flatMap nmB)
 |0=>Stp.nil zs st
 |k+1=>by
  have ih:=Stp.nms zs hb st k
  have:=ih.trans (Stp.nm zs hb (pnms zs zs.length st k).2)
  simpa [pnms] using this
theorem nby_cons(s:ByteArray)(r:List ByteArray):nby (s::r)=((s.size:Int)::nums s)++nby r:=by simp[nby]
theorem Stp.text(zs:List Int)(hb:∀z∈zs,0<=z/\z<=255)(st:Option Nat):Stp zs st (mv zs.length (mv zs.length st 1) (val (tk zs st 1))) (((lb (tk zs (mv zs.length st 1) (val (tk zs st 1)))).size:Int)::nums (lb (tk zs (mv zs.length st 1) (val (tk zs st 1))))):=by
 intro q hq
 obtain ⟨p1,e1,hB⟩:=Stp.take zs _ _ q hq
 obtain ⟨p0,rfl,hA⟩:=Stp.take zs _ _ p1 e1
 have h1:=tk_some e1
 rw[e1] at hq hB ⊢
 have h2:=tk_some hq
 obtain ⟨c,hc⟩:=len1 (l:=tk zs (some p0) 1) (by simpa using h1.1)
 have hv:val (tk zs (some p0) 1)=c:=by rw[hc];simp[val]
 refine ⟨p0,rfl,fun hp=>?_⟩
 obtain ⟨a1,a2⟩:=hA hp
 obtain ⟨b1,b2⟩:=hB a1
 refine ⟨b1,?_⟩
 have hnm:nums (lb (tk zs (some p1) (val (tk zs (some p0) 1))))=tk zs (some p1) (val (tk zs (some p0) 1)):=nums_back _ (tk_bytes zs _ _ hb)
 rw[hnm,lb_size,h2.1,a2,b2,hc]
 have:(((val (tk zs (some p0) 1)).toNat:Nat):Int)=c:=by omega
 rw[hc] at this
 rw[this]
 simp
theorem Stp.texts(zs:List Int)(hb:∀z∈zs,0<=z/\z<=255):∀(k:Nat) (st:Option Nat),Stp zs st (ptxF zs zs.length k st).2 (nby (ptxF zs zs.length k st).1)
 |0,st=>Stp.nil zs st
 |k+1,st=>by
  by_cases h:0<lft zs.length st
  ·have ih:=Stp.texts zs hb k (mv zs.length (mv zs.length st 1) (val (tk zs st 1)))
   have:=(Stp.text zs hb st).trans ih
   unfold ptxF
   rw[if_pos h]
   simp only
   rw[nby_cons]
   exact this
  ·rw[ptxF_end zs zs.length (k+1) st h]
   exact Stp.nil zs st
theorem Stp.two(zs:List Int)(hb:∀z∈zs,0<=z/\z<=255)(st:Option Nat):Stp zs st (ptx2 zs zs.length st).2 (ptB 1 (ptx2 zs zs.length st).1):=by
 have h1:=Stp.text zs hb st
 have h2:=h1.trans (Stp.take zs (mv zs.length (mv zs.length st 1) (val (tk zs st 1))) (lft zs.length (mv zs.length (mv zs.length st 1) (val (tk zs st 1)))))
 have e:ptB 1 (ptx2 zs zs.length st).1=(((lb (tk zs (mv zs.length st 1) (val (tk zs st 1)))).size:Int)::nums (lb (tk zs (mv zs.length st 1) (val (tk zs st 1)))))++tk zs (mv zs.length (mv zs.length st 1) (val (tk zs st 1))) (lft zs.length (mv zs.length (mv zs.length st 1) (val (tk zs st 1)))):=by
  have hn:nums (lb (tk zs (mv zs.length (mv zs.length st 1) (val (tk zs st 1))) (lft zs.length (mv zs.length (mv zs.length st 1) (val (tk zs st 1))))))=tk zs (mv zs.length (mv zs.length st 1) (val (tk zs st 1))) (lft zs.length (mv zs.length (mv zs.length st 1) (val (tk zs st 1)))):=nums_back _ (tk_bytes zs _ _ hb)
  simp[ptB,ptx2,nby,hn]
 rw[e]
 exact h2
theorem ptx2_len(zs:List Int)(len:Nat)(st:Option Nat):(ptx2 zs len st).1.length=2:=rfl
theorem Stp.txs(t:Nat)(zs:List Int)(hb:∀z∈zs,0<=z/\z<=255)(st:Option Nat):Stp zs st (ptxs (fs t) zs zs.length st).2 (ptB ((ptxs (fs t) zs zs.length st).1.length - (fs t).tl) (ptxs (fs t) zs zs.length st).1):=by
 rcases fs_cases t with ⟨ht,e⟩|⟨ht,e⟩|⟨ht,e⟩|⟨ht,e⟩|⟨ht,e⟩|⟨ht,e⟩|⟨ht,e⟩|⟨ht,e⟩|⟨ht,e⟩
 all_goals rw[e];unfold ptxs
 all_goals first
  |exact Stp.two zs hb st
  |(simp only[if_true];rw[ptB_all];exact Stp.texts zs hb _ st)
  |exact Stp.nil zs st
theorem fs_w(t:Nat):(fs t).nu=0∨(fs t).wd=1∨(fs t).wd=2∨(fs t).wd=4:=by
 rcases fs_cases t with ⟨_,e⟩|⟨_,e⟩|⟨_,e⟩|⟨_,e⟩|⟨_,e⟩|⟨_,e⟩|⟨_,e⟩|⟨_,e⟩|⟨_,e⟩ <;> rw[e] <;> simp
theorem pread_sound(t:Nat)(zs:List Int)(hb:∀z∈zs,0<=z/\z<=255)(hp:(pread (fs t) zs zs.length).2=some zs.length)(hck:checkF t (pread (fs t) zs zs.length).1=0):writeF t (pread (fs t) zs zs.length).1=zs:=by
 obtain ⟨_,hfit,_,_⟩:=check_parts hck
 have hw:=(wr_eq t _ hfit).2.2.2.2.2
 rw[<- hw]
 have hu:Stp zs (pnms zs zs.length (some 0) (fs t).nf).2 (pnus zs zs.length (pnms zs zs.length (some 0) (fs t).nf).2 (fs t).wd (fs t).nu).2 ((pnus zs zs.length (pnms zs zs.length (some 0) (fs t).nf).2 (fs t).wd (fs t).nu).1.flatMap fun n=>numB n (fs t).wd):=by
  rcases fs_w t with h|h
  ·rw[h];exact Stp.nil _ _
  ·exact Stp.us zs hb _ _ h _
 have h123:=(((Stp.nms zs hb (some 0) (fs t).nf).trans hu).trans (Stp.nms zs hb _ ((fs t).nn - (fs t).nf))).trans (Stp.txs t zs hb _)
 have hr:Stp zs (some 0) (pread (fs t) zs zs.length).2 (((pnms zs zs.length (some 0) (fs t).nf).1.flatMap nmB++(pnus zs zs.length (pnms zs zs.length (some 0) (fs t).nf).2 (fs t).wd (fs t).nu).1.flatMap (fun n=>numB n (fs t).wd)++(pnms zs zs.length (pnus zs zs.length (pnms zs zs.length (some 0) (fs t).nf).2 (fs t).wd (fs t).nu).2 ((fs t).nn - (fs t).nf)).1.flatMap nmB++ptB ((ptxs (fs t) zs zs.length (pnms zs zs.length (pnus zs zs.length (pnms zs zs.length (some 0) (fs t).nf).2 (fs t).wd (fs t).nu).2 ((fs t).nn - (fs t).nf)).2).1.length - (fs t).tl) (ptxs (fs t) zs zs.length (pnms zs zs.length (pnus zs zs.length (pnms zs zs.length (some 0) (fs t).nf).2 (fs t).wd (fs t).nu).2 ((fs t).nn - (fs t).nf)).2).1)++(pread (fs t) zs zs.length).1.raw):=by
  refine h123.trans ?_
  unfold pread
  simp only
  split
  ·exact Stp.nil _ _
  ·exact Stp.take _ _ _
 obtain ⟨p,e,h⟩:=hr _ hp
 cases e
 obtain ⟨_,h2⟩:=h (Nat.zero_le _)
 have hk:(pnms zs zs.length (some 0) (fs t).nf).1.length=(fs t).nf:=pnms_len _ _ _ _
 have e1:(pread (fs t) zs zs.length).1.ns.take (fs t).nf=(pnms zs zs.length (some 0) (fs t).nf).1:=by
  show ((pnms zs zs.length (some 0) (fs t).nf).1++_).take (fs t).nf=_
  rw[List.take_left' hk]
 have e2:(pread (fs t) zs zs.length).1.ns.drop (fs t).nf=(pnms zs zs.length (pnus zs zs.length (pnms zs zs.length (some 0) (fs t).nf).2 (fs t).wd (fs t).nu).2 ((fs t).nn - (fs t).nf)).1:=by
  show ((pnms zs zs.length (some 0) (fs t).nf).1++_).drop (fs t).nf=_
  rw[List.drop_left' hk]
 rw[e1,e2]
 rw[List.drop_zero,List.drop_length,List.append_nil] at h2
 exact h2.symm
theorem pnm1_at{zs:List Int}{p:Nat}{n:List ByteArray}{R:List Int}(h:zs.drop p=nmB n++R)(hp:p<=zs.length)(hk:nck n=0):pnm1 zs zs.length (some p)=(n,some (p+nsz n)):=by
 obtain ⟨e1,e2,_,e4⟩:=dropd h hp
 have hg:=gName_at (zs.take p) R n hk
 rw[<- e1,e2] at hg
 obtain ⟨g1,_,_,g4⟩:=gName_le hg
 simp only[pnm1,pos,g4,jm,if_true]
 rw[if_pos ⟨by omega,by omega⟩]
 simp
 omega
theorem pnms_at{zs:List Int}{p:Nat}{ns:List (List ByteArray)}{R:List Int}(h:zs.drop p=ns.flatMap nmB++R)(hp:p<=zs.length)(hk:∀n∈ns,nck n=0):∀k,k<=ns.length->pnms zs zs.length (some p) k=(ns.take k,some (p+((ns.take k).flatMap nmB).length))
 |0,_=>by simp[pnms]
 |k+1,hk1=>by
  have ih:=pnms_at h hp hk k (by omega)
  have hd:zs.drop p=(ns.take k).flatMap nmB++((ns.drop k).flatMap nmB++R):=by
   rw[h,<- List.append_assoc,<- List.flatMap_append,List.take_append_drop]
  obtain ⟨_,_,e3,e4⟩:=dropd hd hp
  have hdk:ns.drop k=ns[k]::ns.drop (k+1):=List.drop_eq_getElem_cons (by omega)
  rw[hdk,List.flatMap_cons,List.append_assoc] at e3
  have h1:=pnm1_at e3 e4 (hk _ (List.getElem_mem _))
  simp only[pnms,ih,h1]
  rw[List.take_succ_eq_append_getElem (by omega),List.flatMap_append]
  simp[nmB_len];omega
theorem pnus_at{zs:List Int}{p wd:Nat}{us:List Nat}{R:List Int}(h:zs.drop p=us.flatMap (fun n=>numB n wd)++R)(hp:p<=zs.length)(hw:us=[]∨wd=1∨wd=2∨wd=4)(hu:∀u∈us,u<=most wd):∀k,k<=us.length->pnus zs zs.length (some p) wd k=(us.take k,some (p+((us.take k).flatMap (fun n=>numB n wd)).length))
 |0,_=>by simp[pnus]
 |k+1,hk1=>by
  have ih:=pnus_at h hp hw hu k (by omega)
  have hw':wd=1∨wd=2∨wd=4:=hw.resolve_left (fun e=>by rw[e] at hk1;simp at hk1)
  have hd:zs.drop p=(us.take k).flatMap (fun n=>numB n wd)++((us.drop k).flatMap (fun n=>numB n wd)++R):=by
   rw[h,<- List.append_assoc,<- List.flatMap_append,List.take_append_drop]
  obtain ⟨_,_,e3,e4⟩:=dropd hd hp
  have hdk:us.drop k=us[k]::us.drop (k+1):=List.drop_eq_getElem_cons (by omega)
  rw[hdk,List.flatMap_cons,List.append_assoc] at e3
  have hl:=numB_len us[k] wd hw'
  obtain ⟨_,_,e5,e6⟩:=dropd e3 e4
  have hm:=hu us[k] (List.getElem_mem _)
  have htk:tk zs (some (p+((us.take k).flatMap (fun n=>numB n wd)).length)) (wd:Int)=numB us[k] wd:=by
   simp only[tk]
   rw[if_pos ⟨by omega,by omega⟩,e3,Int.toNat_natCast,List.take_append_of_le_length (by omega),List.take_of_length_le (by omega)]
  have h1:pnu zs (some (p+((us.take k).flatMap (fun n=>numB n wd)).length)) wd=us[k]:=by
   unfold pnu
   rw[htk]
   refine val_numB _ _ ?_
   rcases hw' with rfl|rfl|rfl
   ·exact .inl ⟨rfl,by simpa [most] using hm⟩
   ·exact .inr (.inl ⟨rfl,by simpa [most] using hm⟩)
   ·exact .inr (.inr ⟨rfl,by simpa [most] using hm⟩)
  have h2:mv zs.length (some (p+((us.take k).flatMap (fun n=>numB n wd)).length)) (wd:Int)=some (p+((us.take k).flatMap (fun n=>numB n wd)).length+wd):=by
   simp only[mv]
   rw[if_pos ⟨by omega,by omega⟩]
   simp
  simp only[pnus,ih,h1,h2]
  rw[List.take_succ_eq_append_getElem (by omega),List.flatMap_append]
  simp[hl];omega
theorem text_at{zs:List Int}{p:Nat}{s:ByteArray}{R:List Int}(h:zs.drop p=((s.size:Int)::nums s)++R)(hp:p<=zs.length):val (tk zs (some p) 1)=(s.size:Int)/\mv zs.length (some p) 1=some (p+1)/\tk zs (some (p+1)) (s.size:Int)=nums s/\mv zs.length (some (p+1)) (s.size:Int)=some (p+1+s.size)/\zs.drop (p+1+s.size)=R/\p+1+s.size<=zs.length:=by
 obtain ⟨_,_,e3,e4⟩:=dropd h hp
 have hn:=nums_len s
 simp only[List.length_cons] at e3 e4
 have e1:zs.drop (p+1)=nums s++R:=by rw[<- List.drop_drop,h];rfl
 refine ⟨?_,?_,?_,?_,?_,by omega⟩
 ·simp only[tk]
  rw[if_pos ⟨by omega,by omega⟩,h]
  simp[val]
 ·simp only[mv]
  rw[if_pos ⟨by omega,by omega⟩]
  simp
 ·simp only[tk]
  rw[if_pos ⟨by omega,by omega⟩,e1,Int.toNat_natCast,List.take_append_of_le_length (by omega),List.take_of_length_le (by omega)]
 ·simp only[mv]
  rw[if_pos ⟨by omega,by omega⟩]
  simp
 ·rw[<- e3];congr 1;omega
theorem ptxF_at{zs:List Int}:∀(l:List ByteArray) (p k:Nat),zs.drop p=nby l->p<=zs.length->l.length<k->ptxF zs zs.length k (some p)=(l,some zs.length)
 |[],p,k,h,hp,hk=>by
  have:zs.length - p=0:=by have:=congrArg List.length h;simpa [nby] using this
  rw[ptxF_end zs zs.length k (some p) (by simp[lft];omega)]
  have:p=zs.length:=by omega
  rw[this]
 |s::r,p,0,h,hp,hk=>by simp at hk
 |s::r,p,k+1,h,hp,hk=>by
  rw[nby_cons] at h
  obtain ⟨e1,e2,e3,e4,e5,e6⟩:=text_at h hp
  have ih:=ptxF_at r (p+1+s.size) k e5 e6 (by simp at hk;omega)
  unfold ptxF
  rw[if_pos (by simp[lft];omega),e1,e2,e4,e3,ih]
  have:lb (nums s)=s:=txt_back s
  rw[this]
theorem rest_at{zs:List Int}{P:Nat}{X:List Int}(hP:zs.drop P=X)(hPl:P<=zs.length):tk zs (some P) (lft zs.length (some P))=X/\mv zs.length (some P) (lft zs.length (some P))=some zs.length:=by
 have hlP:=congrArg List.length hP
 rw[List.length_drop] at hlP
 have hf:lft zs.length (some P)=(zs.length:Int) - (P:Int):=rfl
 rw[hf]
 constructor
 ·simp only[tk]
  rw[if_pos ⟨by omega,by omega⟩,hP,List.take_of_length_le (by omega)]
 ·simp only[mv]
  rw[if_pos ⟨by omega,by omega⟩]
  congr 1;omega
theorem ptx2_at{zs:List Int}{p:Nat}{s r:ByteArray}(h:zs.drop p=((s.size:Int)::nums s)++nums r)(hp:p<=zs.length):ptx2 zs zs.length (some p)=([s,r],some zs.length):=by
 obtain ⟨e1,e2,e3,e4,e5,e6⟩:=text_at h hp
 obtain ⟨h1,h2⟩:=rest_at e5 e6
 have hs:lb (nums s)=s:=txt_back s
 have hr:lb (nums r)=r:=txt_back r
 unfold ptx2
 simp only[e1,e2,e3,e4,h1,h2,hs,hr]
theorem nby_le(l:List ByteArray):l.length<=(nby l).length:=by
 have:=nby_len l
 have:=nsz_len l
 omega
theorem ptB_two(a b:ByteArray):ptB 1 [a,b]=((a.size:Int)::nums a)++nums b:=by simp[ptB,nby]
theorem pread_at(t:Nat)(d:Dat)(zs:List Int)(hck:checkF t d=0)(hw:writeF t d=zs):pread (fs t) zs zs.length=(d,some zs.length):=by
 obtain ⟨hm,hfit,hns,hsz⟩:=check_parts hck
 obtain ⟨_,w1,w2,w3,w4,w5⟩:=wr_eq t d hfit
 rw[hw] at w5
 have hfe:=fit_eq t d
 rw[hfit] at hfe
 simp only[Bool.and_eq_true] at hfe
 have hcnt:=hfe.1
 unfold cntB at hcnt
 simp only[Bool.and_eq_true] at hcnt
 obtain ⟨⟨⟨c1,c2⟩,c3⟩,c4⟩:=hcnt
 rw[fitB_ge _ _ (by omega)] at c1 c2
 have c1':d.ns.length=(fs t).nn:=by have:=of_decide_eq_true c1;omega
 have c2':d.us.length=(fs t).nu:=by have:=of_decide_eq_true c2;omega
 have hun:=((fit_iff t d).1 hfit).un
 rw[<- w3] at hun
 have hww:d.us=[]∨(fs t).wd=1∨(fs t).wd=2∨(fs t).wd=4:=by
  rcases fs_w t with h|h
  ·exact .inl (len0 (by omega))
  ·exact .inr h
 have z1:zs.drop 0=(d.ns.take (fs t).nf).flatMap nmB++(d.us.flatMap (fun n=>numB n (fs t).wd)++((d.ns.drop (fs t).nf).flatMap nmB++(ptB (d.ts.length - (fs t).tl) d.ts++d.raw))):=by
  rw[List.drop_zero,<- w5];simp
 have q1:=pnms_at z1 (Nat.zero_le _) (fun n hn=>hns n (List.mem_of_mem_take hn)) (fs t).nf (by simp;omega)
 rw[List.take_take,Nat.min_self] at q1
 obtain ⟨_,_,z2,l2⟩:=dropd z1 (Nat.zero_le _)
 have q2:=pnus_at z2 l2 hww hun (fs t).nu (by omega)
 have ht1:d.us.take (fs t).nu=d.us:=List.take_of_length_le (by omega)
 rw[ht1] at q2
 obtain ⟨_,_,z3,l3⟩:=dropd z2 l2
 have q3:=pnms_at z3 l3 (fun n hn=>hns n (List.mem_of_mem_drop hn)) ((fs t).nn - (fs t).nf) (by simp;omega)
 have ht2:(d.ns.drop (fs t).nf).take ((fs t).nn - (fs t).nf)=d.ns.drop (fs t).nf:=List.take_of_length_le (by simp;omega)
 rw[ht2] at q3
 obtain ⟨_,_,z4,l4⟩:=dropd z3 l3
 have q4:ptxs (fs t) zs zs.length (some (0+((d.ns.take (fs t).nf).flatMap nmB).length+(d.us.flatMap (fun n=>numB n (fs t).wd)).length+((d.ns.drop (fs t).nf).flatMap nmB).length))=(d.ts,some (0+((d.ns.take (fs t).nf).flatMap nmB).length+(d.us.flatMap (fun n=>numB n (fs t).wd)).length+((d.ns.drop (fs t).nf).flatMap nmB).length+(ptB (d.ts.length - (fs t).tl) d.ts).length))/\((fs t).nr=0->d.raw=[]):=by
  clear q1 q2 q3 z1 z2 z3 l2 l3
  generalize 0+((d.ns.take (fs t).nf).flatMap nmB).length+(d.us.flatMap (fun n=>numB n (fs t).wd)).length+((d.ns.drop (fs t).nf).flatMap nmB).length=p at*
  have hlz:(zs.drop p).length=zs.length - p:=by simp
  rcases fs_cases t with ⟨ht,e⟩|⟨ht,e⟩|⟨ht,e⟩|⟨ht,e⟩|⟨ht,e⟩|⟨ht,e⟩|⟨ht,e⟩|⟨ht,e⟩|⟨ht,e⟩
  all_goals rw[e] at c3 c4 z4 ⊢
  all_goals simp only at z4 c3 c4 ⊢
  case inr.inr.inr.inr.inr.inr.inl=>
   have hraw:d.raw=[]:=nil_of (by rw[fitB_ge _ _ (by omega)] at c4;simpa using c4)
   rw[hraw,ptB_all,List.append_nil] at z4
   have:=nby_le d.ts
   refine ⟨?_,fun _=>hraw⟩
   unfold ptxs
   rw[if_pos rfl,ptxF_at d.ts p _ z4 l4 (by rw[z4] at hlz;omega),ptB_all]
   rw[z4] at hlz
   congr 2;omega
  case inr.inr.inr.inr.inr.inr.inr.inl=>
   have hraw:d.raw=[]:=nil_of (by rw[fitB_ge _ _ (by omega)] at c4;simpa using c4)
   have h2:d.ts.length=2:=by rw[fitB_ge _ _ (by omega)] at c3;simp at c3;omega
   obtain ⟨a,b,hab⟩:=len2 h2
   refine ⟨?_,fun _=>hraw⟩
   rw[hab,hraw,List.append_nil] at z4
   have z5:zs.drop p=ptB 1 [a,b]:=z4
   rw[ptB_two] at z5
   unfold ptxs
   rw[if_neg (by decide),if_pos rfl,ptx2_at z5 l4,hab]
   rw[z4] at hlz
   congr 2;omega
  all_goals
   have hts:d.ts=[]:=nil_of (by rw[fitB_ge _ _ (by omega)] at c3;simpa using c3)
   refine ⟨?_,?_⟩
   ·rw[hts];unfold ptxs;simp[ptB,nby]
   ·first
     |(intro h;exact absurd h (by decide))
     |(intro _;exact nil_of (by rw[fitB_ge _ _ (by omega)] at c4;simpa using c4))
 obtain ⟨q4,hraw⟩:=q4
 obtain ⟨_,_,z5,l5⟩:=dropd z4 l4
 unfold pread
 simp only[q1,q2,q3,q4]
 have hlz:=congrArg List.length z5
 rw[List.length_drop] at hlz
 have hnn:d.ns.take (fs t).nf++d.ns.drop (fs t).nf=d.ns:=List.take_append_drop _ _
 rw[hnn]
 split
 ·rename_i h
  have hr:=hraw h
  rw[hr] at hlz
  have hP:=Nat.le_antisymm l5 (Nat.le_of_sub_eq_zero hlz)
  rw[hP,<- hr]
 ·obtain ⟨r1,r2⟩:=rest_at z5 l5
  rw[r1,r2]
theorem pread_doc(t:Nat)(zs:List Int)(hb:∀z∈zs,0<=z/\z<=255):(if (pread (fs t) zs zs.length).2=some zs.length/\checkF t (pread (fs t) zs zs.length).1=0 then some (pread (fs t) zs zs.length).1 else none)=dreadF t zs:=by
 refine read_unique ?_ ?_
 ·intro d h
  split at h
  ·rename_i hc
   cases h
   exact ⟨hc.2,pread_sound t zs hb hc.1 hc.2⟩
  ·cases h
 ·intro h d hck hw
  have:=pread_at t d zs hck hw
  rw[this] at h
  simp only at h
  rw[if_pos ⟨trivial,hck⟩] at h
  cases h
theorem FBox.off{w w':World}{b g:Nat}{f:Fs}(h:FBox w b f)(hg:w.grownBy w' (some g))(hne:g≠b):FBox w' b f:=by
 obtain ⟨h0,h1,h2,h3,h4,h5,h6,h7,hl⟩:=h
 have hb:w'.heap[b]?=w.heap[b]?:=hg.block b hl (fun e=>by cases e;omega)
 exact ⟨(World.cell?_of_block hb).trans h0,(World.cell?_of_block hb).trans h1,(World.cell?_of_block hb).trans h2,(World.cell?_of_block hb).trans h3,(World.cell?_of_block hb).trans h4,(World.cell?_of_block hb).trans h5,(World.cell?_of_block hb).trans h6,(World.cell?_of_block hb).trans h7,Nat.lt_of_lt_of_le hl hg.size⟩
theorem RS.rebase{Wb W:World}{g:Nat}{a:Option Addr}{len cap:Nat}{zs:List Int}{st:Option Nat}(h:RS Wb W g a len cap zs st):RS W W g a len cap zs st:=
 ⟨h.rst,World.grownBy.refl _ _,h.rdW,h.hl,h.hc,h.hd,h.off,Nat.lt_of_lt_of_le h.gl h.kp.size,h.hm⟩
theorem RS.back{Wb W W':World}{g:Nat}{a:Option Addr}{len cap:Nat}{zs:List Int}{st st':Option Nat}(h:RS Wb W g a len cap zs st)(h':RS W W' g a len cap zs st'):RS Wb W' g a len cap zs st':=h.to h'.rst h'.kp
theorem UOwn.mono{B B':Nat}{w:World}{s:Sl}{us:List Nat}(h:UOwn B w s us)(hB:B'<=B):UOwn B' w s us:=by
 obtain ⟨xs,h1,h2⟩:=h
 exact ⟨xs,h1.mono hB,h2⟩
theorem OwnN.mono{B B':Nat}{w:World}{v:Value}{nss:List (List ByteArray)}(h:OwnN B w v nss)(hB:B'<=B):OwnN B' w v nss:=by
 obtain ⟨xs,h1,h2⟩:=h
 refine ⟨xs,h1.mono hB,fun i hi=>?_⟩
 obtain ⟨s,e1,e2⟩:=h2 i hi
 exact ⟨s,e1,e2.mono hB⟩
theorem BOwn.mono{B B':Nat}{w:World}{s:Sl}{zs:List Int}(h:BOwn B w s zs)(hB:B'<=B):BOwn B' w s zs:=by
 obtain ⟨xs,h1,h2⟩:=h
 exact ⟨xs,own_mono h1 hB,h2⟩
theorem UOwn.offTy{B:Nat}{w w':World}{s:Sl}{us:List Nat}(h:UOwn B w s us)(hg:∃o,w.grownBy w' o/\∀j,o=some j->B<=j/\∃zs,BlkV w j 23 zs):UOwn B w' s us:=by
 obtain ⟨o,h1,h2⟩:=hg
 refine h.keepTy fun j _ hj ⟨zs,hz⟩=>h1.block j hj (fun e=>?_)
 obtain ⟨_,zs',hz'⟩:=h2 j e.symm
 exact absurd (blk_ty hz hz') (by decide)
theorem Own1.offTy{B:Nat}{w w':World}{s:Sl}{us:List ByteArray}(h:Own1 B w s us)(hg:∃o,w.grownBy w' o/\∀j,o=some j->B<=j/\∃zs,BlkV w j 23 zs):Own1 B w' s us:=by
 obtain ⟨o,h1,h2⟩:=hg
 refine h.keep fun j _ hj ⟨zs,hz⟩=>h1.block j hj (fun e=>?_)
 obtain ⟨_,zs',hz'⟩:=h2 j e.symm
 exact absurd (blk_ty hz hz') (by decide)
theorem RS.offTy{Wb W W':World}{g:Nat}{a:Option Addr}{len cap:Nat}{zs:List Int}{st:Option Nat}(h:RS Wb W g a len cap zs st)(hg:∃o,W.grownBy W' o/\∀j,o=some j->Wb.heap.size<=j/\∃zs,BlkV W j 23 zs):RS Wb W' g a len cap zs st:=by
 obtain ⟨o,h1,h2⟩:=hg
 exact h.app h1 (fun j hj=>(h2 j hj).1)
theorem DBlk.offTy{W W':World}{D B:Nat}{x:DA}(h:DBlk W D x)(hg:∃o,W.grownBy W' o/\∀j,o=some j->B<=j/\∃zs,BlkV W j 23 zs):DBlk W' D x:=by
 obtain ⟨o,h1,h2⟩:=hg
 refine h.same (h1.block D h.lt (fun e=>?_))
 obtain ⟨_,zs',hz'⟩:=h2 D e.symm
 have hh:W.heap[D]?=_:=h
 have hh':W.heap[D]?=some (.cells zs'.toArray 23 (0,0)):=hz'
 rw[hh] at hh'
 injection hh' with hh'
 injection hh' with _ hh'
 exact absurd hh' (by decide)
theorem DBlk.call{W W':World}{D g:Nat}{x:DA}(h:DBlk W D x)(hg:W.grownBy W' (some g))(hne:g<D):DBlk W' D x:=h.same (hg.block D h.lt (fun e=>by cases e;omega))
theorem dblk_new(W:World):DBlk (W.alloc (.cells #[.slice none 0 0,.slice none 0 0,.slice none 0 0,.slice none 0 0] 48)) W.heap.size nilDA:=heap_alloc_new _ _
theorem new_both(a:Option Addr)(len cap:Nat)(zs:List Int)(w:World)(hr:Rd w a zs)(hl:zs.length=len)(hm:len<=65535)(hn:a=none->cap=0) :
  Calls Tryz.prog 179 #[.slice a len cap] w fun e w'=>∃gr a' ca,e=.returned (.pointer (some ⟨gr,0,none⟩))/\Hid (w.heap.size<=gr/\RS w' w' gr a' len ca zs (some 0)/\Below w.heap.size w w'):=by
 subst hl
 cases a with
 |none=>
  have e0:=hn rfl
  have ez:zs=[]:=rd_none hr
  subst e0
  subst ez
  refine (new_none w).mono ?_
  rintro e w' ⟨gr,a',ca,rfl,H⟩
  obtain ⟨q1,q2,q3,q4,q5,q6,q7,q8⟩:=H.out
  exact ⟨gr,a',ca,rfl,q1,⟨⟨q2,Nat.zero_le _⟩,World.grownBy.refl _ _,q3,rfl,q4,q5,q6,q2.lt,hm⟩,q8⟩
 |some x=>
  refine (new_any x cap zs w hr (by omega)).mono ?_
  rintro e w' ⟨gr,a',ca,rfl,H⟩
  obtain ⟨q1,q2,q3,q4,q5,q6,q7,q8⟩:=H.out
  exact ⟨gr,a',ca,rfl,q1,⟨⟨q2,Nat.zero_le _⟩,World.grownBy.refl _ _,q3,rfl,q4,q5,q6,q2.lt,hm⟩,q8⟩
theorem OwnN.keepTy{B:Nat}{w w':World}{v:Value}{nss:List (List ByteArray)}(h:OwnN B w v nss)(hb:∀j,B<=j->j<w.heap.size->(∃t zs,BlkV w j t zs/\(t=23∨t=9))->w'.heap[j]?=w.heap[j]?):OwnN B w' v nss:=by
 obtain ⟨xs,h1,h2⟩:=h
 refine ⟨xs,?_,fun i hi=>?_⟩
 ·rcases h1 with h1|⟨g,e,hg,hblk,hn⟩
  ·exact .inl h1
  ·exact .inr ⟨g,e,hg,hblk.same (hb g hg hblk.lt ⟨_,_,hblk,.inl rfl⟩),hn⟩
 ·obtain ⟨s,e1,e2⟩:=h2 i hi
  exact ⟨s,e1,e2.keep (fun j h1 h2 ⟨zs,hz⟩=>hb j h1 h2 ⟨_,zs,hz,.inr rfl⟩)⟩
theorem DBlk.ne{W:World}{D j:Nat}{x:DA}{t:TypeId}{zs:List Value}(h:DBlk W D x)(hz:BlkV W j t zs)(ht:t≠48):j≠D:=by
 rintro rfl
 have hh:W.heap[j]?=_:=h
 have hh':W.heap[j]?=some (.cells zs.toArray t (0,0)):=hz
 rw[hh] at hh'
 injection hh' with hh'
 injection hh' with _ hh'
 exact ht hh'.symm
abbrev set4(W:World)(D:Nat)(x:DA):World:=(((W.setCell ⟨D,0,none⟩ (.slice x.p1.a x.p1.n x.p1.c)).setCell ⟨D,1,none⟩ (.slice x.p2.a x.p2.n x.p2.c)).setCell ⟨D,2,none⟩ (.slice x.p3.a x.p3.n x.p3.c)).setCell ⟨D,3,none⟩ (.slice x.p4.a x.p4.n x.p4.c)
theorem set4_blk{W:World}{D:Nat}{y:DA}(h:DBlk W D y)(x:DA):DBlk (set4 W D x) D x:=(heap_set (heap_set (heap_set (heap_set h 0 _) 1 _) 2 _) 3 _).trans (by simp)
theorem set4_off(W:World)(D:Nat)(x:DA)(j:Nat)(hj:j≠D):(set4 W D x).heap[j]?=W.heap[j]?:=
 (((Below.heap_setCell _ _ _ j hj).trans (Below.heap_setCell _ _ _ j hj)).trans (Below.heap_setCell _ _ _ j hj)).trans (Below.heap_setCell _ _ _ j hj)
theorem set4_size(W:World)(D:Nat)(x:DA):(set4 W D x).heap.size=W.heap.size:=by simp[set4,World.setCell]
theorem set4_grown(W:World)(D:Nat)(x:DA):W.grownBy (set4 W D x) (some D):=⟨rfl,rfl,rfl,by rw[set4_size];exact Nat.le_refl _,fun j _ hne=>set4_off W D x j (fun e=>hne (by rw[e]))⟩
structure CutS(Wb W:World)(g:Nat)(a:Option Addr)(len cap:Nat)(zs:List Int)(st:Option Nat)(D:Nat)(x:DA)(d:Dat):Prop where
 rs:RS Wb W g a len cap zs st
 own:DOwn Wb.heap.size W x d
 blk:DBlk W D x
 low:Wb.heap.size<=D
theorem bown_nil(B:Nat)(w:World):BOwn B w ⟨none,0,0⟩ []:=⟨[],.inl ⟨rfl,rfl,rfl⟩,rfl⟩
theorem cut_new{Wb W:World}{g:Nat}{a:Option Addr}{len cap:Nat}{zs:List Int}{st:Option Nat}{tn su sx:Sl}{L:List (List ByteArray)}{us:List Nat}{ts:List ByteArray}
  (h:RS Wb W g a len cap zs st/\OwnN Wb.heap.size W (.slice tn.a tn.n tn.c) L/\UOwn Wb.heap.size W su us/\Own1 Wb.heap.size W sx ts) :
  CutS Wb (W.alloc (.cells #[.slice tn.a tn.n tn.c,.slice su.a su.n su.c,.slice sx.a sx.n sx.c,.slice none 0 0] 48)) g a len cap zs st W.heap.size ⟨tn,su,sx,⟨none,0,0⟩⟩ ⟨L,us,ts,[]⟩:=by
 obtain ⟨h1,h2,h3,h4⟩:=h
 have hb:=new_below W (.cells #[.slice tn.a tn.n tn.c,.slice su.a su.n su.c,.slice sx.a sx.n sx.c,.slice none 0 0] 48)
 exact ⟨h1.below hb,⟨h2.stays hb,h3.stays hb,h4.stays hb,bown_nil _ _⟩,heap_alloc_new _ _,h1.kp.size⟩
theorem cut_set{Wb W:World}{g:Nat}{a:Option Addr}{len cap:Nat}{zs:List Int}{st:Option Nat}{tn su sx:Sl}{L:List (List ByteArray)}{us:List Nat}{ts:List ByteArray}{D:Nat}{y:DA}
  (h:RS Wb W g a len cap zs st/\OwnN Wb.heap.size W (.slice tn.a tn.n tn.c) L/\UOwn Wb.heap.size W su us/\Own1 Wb.heap.size W sx ts) (hD:DBlk W D y) (hl:Wb.heap.size<=D) :
  CutS Wb ((((W.setCell ⟨D,0,none⟩ (.slice tn.a tn.n tn.c)).setCell ⟨D,1,none⟩ (.slice su.a su.n su.c)).setCell ⟨D,2,none⟩ (.slice sx.a sx.n sx.c)).setCell ⟨D,3,none⟩ (.slice none 0 0)) g a len cap zs st D ⟨tn,su,sx,⟨none,0,0⟩⟩ ⟨L,us,ts,[]⟩:=by
 obtain ⟨h1,h2,h3,h4⟩:=h
 have e:=set4_off W D ⟨tn,su,sx,⟨none,0,0⟩⟩
 have hg:=set4_grown W D ⟨tn,su,sx,⟨none,0,0⟩⟩
 refine ⟨h1.app hg (by rintro j ⟨⟩;exact hl),⟨h2.keepTy ?_,h3.keepTy ?_,h4.keep ?_,bown_nil _ _⟩,set4_blk hD ⟨tn,su,sx,⟨none,0,0⟩⟩,hl⟩
 ·rintro j _ _ ⟨t,zs,hz,ht⟩
  exact e j (hD.ne hz (by rcases ht with rfl|rfl <;> decide))
 ·rintro j _ _ ⟨zs,hz⟩
  exact e j (hD.ne hz (by decide))
 ·rintro j _ _ ⟨zs,hz⟩
  exact e j (hD.ne hz (by decide))
theorem CutS.rd{Wb W W':World}{g:Nat}{a:Option Addr}{len cap:Nat}{zs:List Int}{st st':Option Nat}{D:Nat}{x:DA}{d:Dat}(h:CutS Wb W g a len cap zs st D x d)(h1:RS Wb W' g a len cap zs st')(h2:W.grownBy W' (some g)):CutS Wb W' g a len cap zs st' D x d:=
 ⟨h1,h.own.keep (fun j hj hl=>h2.block j hl (fun e=>by have:=h.rs.gl;have:=Option.some.inj e;omega)),h.blk.call h2 (Nat.lt_of_lt_of_le h.rs.gl h.low),h.low⟩
theorem BOwn.keepD{B:Nat}{w w':World}{s:Sl}{zs:List Int}{D:Nat}{x:DA}(h:BOwn B w s zs)(hD:DBlk w D x)(hb:∀j,j≠D->w'.heap[j]?=w.heap[j]?):BOwn B w' s zs:=by
 obtain ⟨ys,h1,h2⟩:=h
 refine ⟨ys,?_,h2⟩
 rcases h1 with h1|⟨g,e1,e2,e3,e4⟩
 ·exact .inl h1
 ·refine .inr ⟨g,e1,e2,e3.same (hb g ?_),e4⟩
  rintro rfl
  have hh:w.heap[g]?=_:=hD
  have hh':=e3.1
  rw[hh] at hh'
  injection hh' with hh'
  injection hh' with _ hh'
  exact absurd hh' (by decide)
theorem CutS.raw{Wb W:World}{g:Nat}{a:Option Addr}{len cap:Nat}{zs:List Int}{st:Option Nat}{D:Nat}{x:DA}{d:Dat}(h:CutS Wb W g a len cap zs st D x d){s:Sl}{ys:List Int}(hs:BOwn Wb.heap.size W s ys):CutS Wb (W.setCell ⟨D,3,none⟩ (.slice s.a s.n s.c)) g a len cap zs st D ⟨x.p1,x.p2,x.p3,s⟩ ⟨d.ns,d.us,d.ts,ys⟩:=by
 have e:∀j,j≠D->(W.setCell ⟨D,3,none⟩ (.slice s.a s.n s.c)).heap[j]?=W.heap[j]?:=fun j hj=>Below.heap_setCell _ _ _ j hj
 have hg:W.grownBy (W.setCell ⟨D,3,none⟩ (.slice s.a s.n s.c)) (some D):=⟨rfl,rfl,rfl,by simp[World.setCell],fun j _ hne=>e j (fun e=>hne (by rw[e]))⟩
 obtain ⟨h1,⟨h2,h3,h4,_⟩,hD,hl⟩:=h
 refine ⟨h1.app hg (by rintro j ⟨⟩;exact hl),⟨h2.keepTy ?_,h3.keepTy ?_,h4.keep ?_,hs.keepD hD e⟩,hD.set3 s,hl⟩
 ·rintro j _ _ ⟨t,zs,hz,ht⟩
  exact e j (hD.ne hz (by rcases ht with rfl|rfl <;> decide))
 ·rintro j _ _ ⟨zs,hz⟩
  exact e j (hD.ne hz (by decide))
 ·rintro j _ _ ⟨zs,hz⟩
  exact e j (hD.ne hz (by decide))
theorem DOwn.mono{B B':Nat}{w:World}{x:DA}{d:Dat}(h:DOwn B w x d)(hB:B'<=B):DOwn B' w x d:=⟨h.1.mono hB,h.2.1.mono hB,h.2.2.1.mono hB,h.2.2.2.mono hB⟩
theorem CutS.ret{w Wb W:World}{g:Nat}{a:Option Addr}{len cap:Nat}{zs:List Int}{st:Option Nat}{D R:Nat}{x y:DA}{d:Dat}(h:CutS Wb W g a len cap zs st D x d)(hR:DBlk W R y)(hRb:R<Wb.heap.size)(hw:w.heap.size<=R)(hb:Below w.heap.size w W) :
  DBlk (set4 W R x) R x/\DOwn w.heap.size (set4 W R x) x d/\Below w.heap.size w (set4 W R x):=by
 refine ⟨set4_blk hR x,(h.own.keep (fun j hj _=>set4_off W R x j (by omega))).mono (by omega),?_⟩
 exact (((hb.setCell (p:=⟨R,0,none⟩) hw _).setCell (p:=⟨R,1,none⟩) hw _).setCell (p:=⟨R,2,none⟩) hw _).setCell (p:=⟨R,3,none⟩) hw _
theorem pread_fields(t:Nat)(a0:Option Addr)(len c0:Nat)(zs:List Int)(w:World)(hr:Rd w a0 zs)(hl:zs.length=len)(hm:len<=65535)(hc:len<=c0/\c0<=9223372036854775807)(hnil:a0=none->c0=0) :
  Calls Tryz.prog 171 #[.agg #[.int .i64 (fs t).nn,.int .i64 (fs t).nf,.int .i64 (fs t).nu,.int .i64 (fs t).wd,.int .i64 (fs t).nt,.int .i64 (fs t).tg,.int .i64 (fs t).tl,.int .i64 (fs t).nr],.slice a0 len c0] w fun e w'=>∃x:DA,e=.returned (.tuple #[.agg #[.slice x.p1.a x.p1.n x.p1.c,.slice x.p2.a x.p2.n x.p2.c,.slice x.p3.a x.p3.n x.p3.c,.slice x.p4.a x.p4.n x.p4.c],.bool (decide ((pread (fs t) zs len).2=some len))])/\Hid (DOwn w.heap.size w' x (pread (fs t) zs len).1/\Below w.heap.size w w'):=by
 have hb1:Below w.heap.size w (w.alloc (.cells #[.int .i64 (fs t).nn,.int .i64 (fs t).nf,.int .i64 (fs t).nu,.int .i64 (fs t).wd,.int .i64 (fs t).nt,.int .i64 (fs t).tg,.int .i64 (fs t).tl,.int .i64 (fs t).nr] 201)):=(Below.refl _ _).alloc (Nat.le_refl _) _
 have hsz1:(w.alloc (.cells #[.int .i64 (fs t).nn,.int .i64 (fs t).nf,.int .i64 (fs t).nu,.int .i64 (fs t).wd,.int .i64 (fs t).nt,.int .i64 (fs t).tg,.int .i64 (fs t).tl,.int .i64 (fs t).nr] 201)).heap.size=w.heap.size+1:=by simp
 have hX1:=FBox.new w (fs t)
 have hb2:Below (w.alloc (.cells #[.int .i64 (fs t).nn,.int .i64 (fs t).nf,.int .i64 (fs t).nu,.int .i64 (fs t).wd,.int .i64 (fs t).nt,.int .i64 (fs t).tg,.int .i64 (fs t).tl,.int .i64 (fs t).nr] 201)).heap.size (w.alloc (.cells #[.int .i64 (fs t).nn,.int .i64 (fs t).nf,.int .i64 (fs t).nu,.int .i64 (fs t).wd,.int .i64 (fs t).nt,.int .i64 (fs t).tg,.int .i64 (fs t).tl,.int .i64 (fs t).nr] 201)) ((w.alloc (.cells #[.int .i64 (fs t).nn,.int .i64 (fs t).nf,.int .i64 (fs t).nu,.int .i64 (fs t).wd,.int .i64 (fs t).nt,.int .i64 (fs t).tg,.int .i64 (fs t).tl,.int .i64 (fs t).nr] 201)).alloc (.cells #[.slice none 0 0,.slice none 0 0,.slice none 0 0,.slice none 0 0] 48)):=(Below.refl _ _).alloc (Nat.le_refl _) _
 have hD1:DBlk ((w.alloc (.cells #[.int .i64 (fs t).nn,.int .i64 (fs t).nf,.int .i64 (fs t).nu,.int .i64 (fs t).wd,.int .i64 (fs t).nt,.int .i64 (fs t).tg,.int .i64 (fs t).tl,.int .i64 (fs t).nr] 201)).alloc (.cells #[.slice none 0 0,.slice none 0 0,.slice none 0 0,.slice none 0 0] 48)) (w.heap.size+1) nilDA:=by
  have:=heap_alloc_new (w.alloc (.cells #[.int .i64 (fs t).nn,.int .i64 (fs t).nf,.int .i64 (fs t).nu,.int .i64 (fs t).wd,.int .i64 (fs t).nt,.int .i64 (fs t).tg,.int .i64 (fs t).tl,.int .i64 (fs t).nr] 201)) (.cells #[.slice none 0 0,.slice none 0 0,.slice none 0 0,.slice none 0 0] 48)
  rw[hsz1] at this
  exact this
 have H:Hid (FBox ((w.alloc (.cells #[.int .i64 (fs t).nn,.int .i64 (fs t).nf,.int .i64 (fs t).nu,.int .i64 (fs t).wd,.int .i64 (fs t).nt,.int .i64 (fs t).tg,.int .i64 (fs t).tl,.int .i64 (fs t).nr] 201)).alloc (.cells #[.slice none 0 0,.slice none 0 0,.slice none 0 0,.slice none 0 0] 48)) w.heap.size (fs t)/\DBlk ((w.alloc (.cells #[.int .i64 (fs t).nn,.int .i64 (fs t).nf,.int .i64 (fs t).nu,.int .i64 (fs t).wd,.int .i64 (fs t).nt,.int .i64 (fs t).tg,.int .i64 (fs t).tl,.int .i64 (fs t).nr] 201)).alloc (.cells #[.slice none 0 0,.slice none 0 0,.slice none 0 0,.slice none 0 0] 48)) (w.heap.size+1) nilDA/\Below w.heap.size w ((w.alloc (.cells #[.int .i64 (fs t).nn,.int .i64 (fs t).nf,.int .i64 (fs t).nu,.int .i64 (fs t).wd,.int .i64 (fs t).nt,.int .i64 (fs t).tg,.int .i64 (fs t).tl,.int .i64 (fs t).nr] 201)).alloc (.cells #[.slice none 0 0,.slice none 0 0,.slice none 0 0,.slice none 0 0] 48))/\Rd ((w.alloc (.cells #[.int .i64 (fs t).nn,.int .i64 (fs t).nf,.int .i64 (fs t).nu,.int .i64 (fs t).wd,.int .i64 (fs t).nt,.int .i64 (fs t).tg,.int .i64 (fs t).tl,.int .i64 (fs t).nr] 201)).alloc (.cells #[.slice none 0 0,.slice none 0 0,.slice none 0 0,.slice none 0 0] 48)) a0 zs):=⟨hX1.below hb2,hD1,hb1.trans (hb2.mono hb1.size),(hr.below hb1).below hb2⟩
 have KW:Hid (∀W,Rd W a0 zs->Calls Tryz.prog 179 #[.slice a0 len c0] W fun e w'=>∃gr a' ca,e=.returned (.pointer (some ⟨gr,0,none⟩))/\Hid (W.heap.size<=gr/\RS w' w' gr a' len ca zs (some 0)/\Below W.heap.size W w')):=fun W hW=>new_both a0 len c0 zs W hW hl hm hnil
 have KN:Hid (∀(n:Nat) Wb W g a cap st,n<=1000->(∀W,Wb.grownBy W (some g)->Rd W a0 zs)->RS Wb W g a len cap zs st->Calls Tryz.prog 180 #[.pointer (some ⟨g,0,none⟩),.slice a0 len c0,.int .i64 n] W fun e w'=>∃s:Sl,e=.returned (.slice s.a s.n s.c)/\Hid (OwnN Wb.heap.size w' (.slice s.a s.n s.c) (pnms zs len st n).1/\RS Wb w' g a len cap zs (pnms zs len st n).2)):=fun n Wb W g a cap st h1 h2 h4=>takenames_any Wb W g a len cap zs st n a0 c0 h1 h2 hc h4
 have KT:Hid (∀Wb W g a cap st,RS Wb W g a len cap zs st->Calls Tryz.prog 182 #[.agg #[.int .i64 (fs t).nn,.int .i64 (fs t).nf,.int .i64 (fs t).nu,.int .i64 (fs t).wd,.int .i64 (fs t).nt,.int .i64 (fs t).tg,.int .i64 (fs t).tl,.int .i64 (fs t).nr],.pointer (some ⟨g,0,none⟩)] W fun e w'=>∃s:Sl,e=.returned (.slice s.a s.n s.c)/\Hid (Own1 Wb.heap.size w' s (ptxs (fs t) zs len st).1/\RS Wb w' g a len cap zs (ptxs (fs t) zs len st).2)):=fun Wb W g a cap st hh=>taketexts_any t Wb W g a len cap zs st hh
 have hfc:(fs t).nf<=(fs t).nn/\(fs t).nn<=2/\(fs t).nu<=5/\((fs t).nu=0∨(fs t).wd=1∨(fs t).wd=2∨(fs t).wd=4):=by
  rcases fs_cases t with ⟨_,e⟩|⟨_,e⟩|⟨_,e⟩|⟨_,e⟩|⟨_,e⟩|⟨_,e⟩|⟨_,e⟩|⟨_,e⟩|⟨_,e⟩ <;> rw[e] <;> simp
 have HPR:Hid (pread (fs t) zs len=(⟨(pnms zs len (some 0) (fs t).nf).1++(pnms zs len (pnus zs len (pnms zs len (some 0) (fs t).nf).2 (fs t).wd (fs t).nu).2 ((fs t).nn - (fs t).nf)).1,(pnus zs len (pnms zs len (some 0) (fs t).nf).2 (fs t).wd (fs t).nu).1,(ptxs (fs t) zs len (pnms zs len (pnus zs len (pnms zs len (some 0) (fs t).nf).2 (fs t).wd (fs t).nu).2 ((fs t).nn - (fs t).nf)).2).1,(if (fs t).nr=0 then (([]:List Int),(ptxs (fs t) zs len (pnms zs len (pnus zs len (pnms zs len (some 0) (fs t).nf).2 (fs t).wd (fs t).nu).2 ((fs t).nn - (fs t).nf)).2).2) else (tk zs (ptxs (fs t) zs len (pnms zs len (pnus zs len (pnms zs len (some 0) (fs t).nf).2 (fs t).wd (fs t).nu).2 ((fs t).nn - (fs t).nf)).2).2 (lft len (ptxs (fs t) zs len (pnms zs len (pnus zs len (pnms zs len (some 0) (fs t).nf).2 (fs t).wd (fs t).nu).2 ((fs t).nn - (fs t).nf)).2).2),mv len (ptxs (fs t) zs len (pnms zs len (pnus zs len (pnms zs len (some 0) (fs t).nf).2 (fs t).wd (fs t).nu).2 ((fs t).nn - (fs t).nf)).2).2 (lft len (ptxs (fs t) zs len (pnms zs len (pnus zs len (pnms zs len (some 0) (fs t).nf).2 (fs t).wd (fs t).nu).2 ((fs t).nn - (fs t).nf)).2).2))).1⟩,(if (fs t).nr=0 then (([]:List Int),(ptxs (fs t) zs len (pnms zs len (pnus zs len (pnms zs len (some 0) (fs t).nf).2 (fs t).wd (fs t).nu).2 ((fs t).nn - (fs t).nf)).2).2) else (tk zs (ptxs (fs t) zs len (pnms zs len (pnus zs len (pnms zs len (some 0) (fs t).nf).2 (fs t).wd (fs t).nu).2 ((fs t).nn - (fs t).nf)).2).2 (lft len (ptxs (fs t) zs len (pnms zs len (pnus zs len (pnms zs len (some 0) (fs t).nf).2 (fs t).wd (fs t).nu).2 ((fs t).nn - (fs t).nf)).2).2),mv len (ptxs (fs t) zs len (pnms zs len (pnus zs len (pnms zs len (some 0) (fs t).nf).2 (fs t).wd (fs t).nu).2 ((fs t).nn - (fs t).nf)).2).2 (lft len (ptxs (fs t) zs len (pnms zs len (pnus zs len (pnms zs len (some 0) (fs t).nf).2 (fs t).wd (fs t).nu).2 ((fs t).nn - (fs t).nf)).2).2))).2)):=(show _=_ from rfl)
 obtain ⟨PR,hPR⟩:∃PR,pread (fs t) zs len=PR:=⟨_,rfl⟩
 rw[hPR] at HPR ⊢
 clear hPR hb1 hb2 hX1 hD1 hsz1 hr
 generalize (fs t)=f at*
 have HTX:Hid (∀st,ptxs f zs len st=ptxs f zs len st):=fun _=>rfl
 obtain ⟨nn,nf,nu,wd,nt,tg,tl,nr⟩:=f
 simp only at H KT HPR hfc ⊢
 obtain ⟨F,hF⟩:∃F:Option Nat->List ByteArray × Option Nat,F=fun st=>ptxs ⟨nn,nf,nu,wd,nt,tg,tl,nr⟩ zs len st:=⟨_,rfl⟩
 have HFF:Hid (∀st,ptxs ⟨nn,nf,nu,wd,nt,tg,tl,nr⟩ zs len st=F st):=fun st=>by rw[hF]
 simp only[HFF.out] at KT HPR
 clear hF HFF HTX
 generalize hn1:pnms zs len (some 0) nf=r1 at*
 generalize hn2:pnus zs len r1.2 wd nu=r2 at*
 generalize hn3:pnms zs len r2.2 (nn - nf)=r3 at*
 generalize hn4:F r3.2=r4 at*
 have HN:Hid (pnms zs len (some 0) nf=r1/\pnus zs len r1.2 wd nu=r2/\pnms zs len r2.2 (nn - nf)=r3/\F r3.2=r4):=⟨hn1,hn2,hn3,hn4⟩
 have HLN:Hid (r1.1.length+r3.1.length<=1000):=by
  show _<=_
  rw[<- hn1,<- hn3,pnms_len,pnms_len]
  omega
 clear hn1 hn2 hn3 hn4
 have hnfi:(nn:Int) - (nf:Int)=((nn - nf:Nat):Int):=by omega
 have hnfw:IntKind.i64.wrap ((nn:Int) - (nf:Int))=((nn - nf:Nat):Int):=by rw[hnfi,IntKind.wrap_i64];omega
 clear hnfi
 go_enter Tryz.func171,Tryz.ntmps171
 go_upto_region 1 with fail
 generalize ((w.alloc (.cells #[.int .i64 nn,.int .i64 nf,.int .i64 nu,.int .i64 wd,.int .i64 nt,.int .i64 tg,.int .i64 tl,.int .i64 nr] 201)).alloc (.cells #[.slice none 0 0,.slice none 0 0,.slice none 0 0,.slice none 0 0] 48))=W1 at*
 obtain ⟨b,hb⟩:∃b,b=w.heap.size:=⟨_,rfl⟩
 rw[<- hb] at H ⊢
 have Hb:Hid (b=w.heap.size):=hb
 clear hb
 go_wp2_with fail
 refine (KW.out _ H.out.2.2.2).mono ?_
 rintro e Wb ⟨g,a',ca,rfl,H1⟩
 have hbW:b+1<W1.heap.size:=H.out.2.1.lt
 have HBB:Hid (FBox Wb b ⟨nn,nf,nu,wd,nt,tg,tl,nr⟩/\DBlk Wb (b+1) nilDA/\Below b w Wb/\(∀W,Wb.grownBy W (some g)->Rd W a0 zs)/\b+1<g/\b+1<Wb.heap.size):=by
  obtain ⟨p1,p2,p3,p4⟩:=H.out
  obtain ⟨q1,q2,q3⟩:=H1.out
  refine ⟨p1.below q3,p2.same (q3.block _ hbW),?_,?_,by omega,Nat.lt_of_lt_of_le hbW q3.size⟩
  ·rw[Hb.out] at p3 ⊢;exact p3.trans (q3.mono p3.size)
  ·intro W hW
   rcases p4.1 with h|⟨b2,o2,h2,h3,_⟩
   ·rw[h];exact ⟨.inl rfl,by simp⟩
   ·refine (p4.below q3).grown hW ?_
    intro b' o' e
    rw[h2] at e;cases e;omega
 have HS0:Hid (RS Wb Wb g a' len ca zs (some 0)):=H1.out.2.1
 have HFB:Hid (∀W,Wb.grownBy W (some g)->FBox W b ⟨nn,nf,nu,wd,nt,tg,tl,nr⟩):=fun W hW=>HBB.out.1.off hW (by have:=HBB.out;omega)
 clear H H1 KW hbW
 have K1:Hid (Calls Tryz.prog 180 #[.pointer (some ⟨g,0,none⟩),.slice a0 len c0,.int .i64 nf] Wb fun e w'=>∃s:Sl,e=.returned (.slice s.a s.n s.c)/\Hid (OwnN Wb.heap.size w' (.slice s.a s.n s.c) r1.1/\RS Wb w' g a' len ca zs r1.2)):=by
  have:=KN.out nf Wb Wb g a' ca (some 0) (by omega) HBB.out.2.2.2.1 HS0.out
  rw[HN.out.1] at this
  exact this
 have s1:=HBB.out.1.2.1
 simp only at s1
 go_wp2_with fail
 refine K1.out.mono ?_
 rintro e W2 ⟨sf,rfl,H2⟩
 clear K1 HS0 s1
 have K2:Hid (Calls Tryz.prog 181 #[.pointer (some ⟨g,0,none⟩),.int .i64 nu,.int .i64 wd] W2 fun e w'=>∃s:Sl,e=.returned (.slice s.a s.n s.c)/\Hid (UOwn W2.heap.size w' s r2.1/\RS W2 w' g a' len ca zs r2.2)):=by
  have:=takenums_any W2 W2 g a' len ca zs r1.2 nu wd hfc.2.2.2 (by omega) H2.out.2.rebase
  rw[HN.out.2.1] at this
  exact this
 have s2:=(HFB.out W2 H2.out.2.kp).2.2.1
 have s3:=(HFB.out W2 H2.out.2.kp).2.2.2.1
 simp only at s2 s3
 go_wp2_with fail
 refine K2.out.mono ?_
 rintro e W3 ⟨su,rfl,H3⟩
 have HG3:Hid (RS Wb W3 g a' len ca zs r2.2/\OwnN Wb.heap.size W3 (.slice sf.a sf.n sf.c) r1.1/\UOwn Wb.heap.size W3 su r2.1):=⟨H2.out.2.back H3.out.2,H2.out.1.kept H3.out.2.kp H2.out.2.gl,H3.out.1.mono H2.out.2.kp.size⟩
 clear K2 H3 H2 s2 s3
 have K3:Hid (Calls Tryz.prog 180 #[.pointer (some ⟨g,0,none⟩),.slice a0 len c0,.int .i64 ((nn - nf:Nat):Int)] W3 fun e w'=>∃s:Sl,e=.returned (.slice s.a s.n s.c)/\Hid (OwnN W3.heap.size w' (.slice s.a s.n s.c) r3.1/\RS W3 w' g a' len ca zs r3.2)):=by
  have:=KN.out (nn - nf) W3 W3 g a' ca r2.2 (by omega) (fun W hW=>HBB.out.2.2.2.1 W (grown2 HG3.out.1.kp hW)) HG3.out.1.rebase
  rw[HN.out.2.2.1] at this
  exact this
 clear KN
 have s0:=(HFB.out W3 HG3.out.1.kp).1
 have s1:=(HFB.out W3 HG3.out.1.kp).2.1
 simp only at s0 s1
 go_upto_region 5 with fail
 refine K3.out.mono ?_
 rintro e W4 ⟨sb,rfl,H4⟩
 have HG4:Hid (RS Wb W4 g a' len ca zs r3.2/\OwnN Wb.heap.size W4 (.slice sf.a sf.n sf.c) r1.1/\UOwn Wb.heap.size W4 su r2.1/\OwnN Wb.heap.size W4 (.slice sb.a sb.n sb.c) r3.1):=⟨HG3.out.1.back H4.out.2,HG3.out.2.1.kept H4.out.2.kp HG3.out.1.gl,HG3.out.2.2.kept H4.out.2.kp HG3.out.1.gl,H4.out.1.mono HG3.out.1.kp.size⟩
 clear K3 H4 HG3 s0 s1
 have hdr:Below W4.heap.size W4 W4.drew:=(Below.refl _ _).drew
 have HV:Hid (RS Wb W4.drew g a' len ca zs r3.2/\OwnN Wb.heap.size W4.drew (.slice sf.a sf.n sf.c) r1.1/\UOwn Wb.heap.size W4.drew su r2.1/\OwnN Wb.heap.size W4.drew (.slice sb.a sb.n sb.c) r3.1):=⟨HG4.out.1.below hdr,HG4.out.2.1.stays hdr,HG4.out.2.2.1.stays hdr,HG4.out.2.2.2.stays hdr⟩
 have KT2:Hid (∀V,RS V V g a' len ca zs r3.2->Calls Tryz.prog 182 #[.agg #[.int .i64 nn,.int .i64 nf,.int .i64 nu,.int .i64 wd,.int .i64 nt,.int .i64 tg,.int .i64 tl,.int .i64 nr],.pointer (some ⟨g,0,none⟩)] V fun e w'=>∃s:Sl,e=.returned (.slice s.a s.n s.c)/\Hid (Own1 V.heap.size w' s r4.1/\RS V w' g a' len ca zs r4.2)):=by
  intro V hV
  have:=KT.out V V g a' ca r3.2 hV
  rw[HN.out.2.2.2] at this
  exact this
 clear KT hdr
 obtain ⟨s0,s1,s2,s3,s4,s5,s6,s7,s8⟩:=HFB.out W4 HG4.out.1.kp
 simp only at s0 s1 s2 s3 s4 s5 s6 s7
 go_upto_region 5 with fail
 go_cut [10] from 32 to 39 (fun s10 wx=>∃(D:Nat) (tn sx:Sl),s10=.pointer (some ⟨D,0,none⟩)/\Hid (CutS Wb wx g a' len ca zs r4.2 D ⟨tn,su,sx,⟨none,0,0⟩⟩ ⟨r1.1++r3.1,r2.1,r4.1,[]⟩))
 case first=>
  go_region_law (first
   |(refine st_nl rfl _ _ rfl Wb.heap.size sf sb r1.1 r3.1 rfl rfl (by first|exact HA5.out.2.1|exact HA5.out.2.1.stays (new_below _ _)) (by first|exact HA5.out.2.2.2.1|exact HA5.out.2.2.2.1.stays (new_below _ _)) HLN.out (by first|exact HA5.out.1.kp.size|exact (HA5.out.1.below (new_below _ _)).kp.size) ?_;intro tn W6 H6 HX6;have HZ:Hid (RS Wb W6 g a' len ca zs r4.2/\OwnN Wb.heap.size W6 (.slice tn.a tn.n tn.c) (r1.1++r3.1)/\UOwn Wb.heap.size W6 su r2.1/\Own1 Wb.heap.size W6 sx r4.1):=⟨(by first|exact HA5.out.1.offTy HX6.out|exact (HA5.out.1.below (new_below _ _)).offTy HX6.out),H6.out,(by first|exact HA5.out.2.2.1.offTy HX6.out|exact (HA5.out.2.2.1.stays (new_below _ _)).offTy HX6.out),(by first|exact HA5.out.2.2.2.2.offTy HX6.out|exact (HA5.out.2.2.2.2.stays (new_below _ _)).offTy HX6.out)⟩;(try (have hD6:Hid (DBlk W6 W5.heap.size nilDA):=(dblk_new W5).offTy HX6.out));(try (have hD6:Hid (DBlk W6 W4.heap.size nilDA):=hD5.out.offTy HX6.out));(try (have d0:=hD6.out.box.1;have d1:=hD6.out.box.2.1;have d2:=hD6.out.box.2.2.1;have d3:=hD6.out.box.2.2.2.1;have z0:=hD6.out.fz 0;have z1:=hD6.out.fz 1;have z2:=hD6.out.fz 2;have z3:=hD6.out.fz 3;simp only at d0 d1 d2 d3));have f0:W6.cell? ⟨b,0,none⟩=some (.int .i64 nn):=(HFB.out W6 HZ.out.1.kp).1;have f1:W6.cell? ⟨b,1,none⟩=some (.int .i64 nf):=(HFB.out W6 HZ.out.1.kp).2.1;have f2:W6.cell? ⟨b,2,none⟩=some (.int .i64 nu):=(HFB.out W6 HZ.out.1.kp).2.2.1;have f3:W6.cell? ⟨b,3,none⟩=some (.int .i64 wd):=(HFB.out W6 HZ.out.1.kp).2.2.2.1;have f4:W6.cell? ⟨b,4,none⟩=some (.int .i64 nt):=(HFB.out W6 HZ.out.1.kp).2.2.2.2.1;have f5:W6.cell? ⟨b,5,none⟩=some (.int .i64 tg):=(HFB.out W6 HZ.out.1.kp).2.2.2.2.2.1;have f6:W6.cell? ⟨b,6,none⟩=some (.int .i64 tl):=(HFB.out W6 HZ.out.1.kp).2.2.2.2.2.2.1;have f7:W6.cell? ⟨b,7,none⟩=some (.int .i64 nr):=(HFB.out W6 HZ.out.1.kp).2.2.2.2.2.2.2.1;have f8:b<W6.heap.size:=(HFB.out W6 HZ.out.1.kp).2.2.2.2.2.2.2.2)
   |(go_simp;go_at_call 182;refine (KT2.out _ (by first|exact HB5.out.1.rebase|exact (HB5.out.1.below (new_below _ _)).rebase)).mono ?_;rintro e W6 ⟨sx,rfl,H6⟩;have HZ:Hid (RS Wb W6 g a' len ca zs r4.2/\OwnN Wb.heap.size W6 (.slice tn.a tn.n tn.c) (r1.1++r3.1)/\UOwn Wb.heap.size W6 su r2.1/\Own1 Wb.heap.size W6 sx r4.1):=⟨(by first|exact HB5.out.1.back H6.out.2|exact (HB5.out.1.below (new_below _ _)).back H6.out.2),(by first|exact HB5.out.2.1.kept H6.out.2.kp HB5.out.1.gl|exact (HB5.out.2.1.stays (new_below _ _)).kept H6.out.2.kp HB5.out.1.gl),(by first|exact HB5.out.2.2.kept H6.out.2.kp HB5.out.1.gl|exact (HB5.out.2.2.stays (new_below _ _)).kept H6.out.2.kp HB5.out.1.gl),(by first|exact H6.out.1.mono HB5.out.1.kp.size|exact H6.out.1.mono (HB5.out.1.below (new_below _ _)).kp.size)⟩;(try (have hD6:Hid (DBlk W6 W5.heap.size nilDA):=(dblk_new W5).call H6.out.2.kp (Nat.lt_of_lt_of_le HB5.out.1.gl HB5.out.1.kp.size)));(try (have hD6:Hid (DBlk W6 W4.heap.size nilDA):=hD5.out.call H6.out.2.kp (Nat.lt_of_lt_of_le HG4.out.1.gl HG4.out.1.kp.size)));(try (have d0:=hD6.out.box.1;have d1:=hD6.out.box.2.1;have d2:=hD6.out.box.2.2.1;have d3:=hD6.out.box.2.2.2.1;have z0:=hD6.out.fz 0;have z1:=hD6.out.fz 1;have z2:=hD6.out.fz 2;have z3:=hD6.out.fz 3;simp only at d0 d1 d2 d3));have f0:W6.cell? ⟨b,0,none⟩=some (.int .i64 nn):=(HFB.out W6 HZ.out.1.kp).1;have f1:W6.cell? ⟨b,1,none⟩=some (.int .i64 nf):=(HFB.out W6 HZ.out.1.kp).2.1;have f2:W6.cell? ⟨b,2,none⟩=some (.int .i64 nu):=(HFB.out W6 HZ.out.1.kp).2.2.1;have f3:W6.cell? ⟨b,3,none⟩=some (.int .i64 wd):=(HFB.out W6 HZ.out.1.kp).2.2.2.1;have f4:W6.cell? ⟨b,4,none⟩=some (.int .i64 nt):=(HFB.out W6 HZ.out.1.kp).2.2.2.2.1;have f5:W6.cell? ⟨b,5,none⟩=some (.int .i64 tg):=(HFB.out W6 HZ.out.1.kp).2.2.2.2.2.1;have f6:W6.cell? ⟨b,6,none⟩=some (.int .i64 tl):=(HFB.out W6 HZ.out.1.kp).2.2.2.2.2.2.1;have f7:W6.cell? ⟨b,7,none⟩=some (.int .i64 nr):=(HFB.out W6 HZ.out.1.kp).2.2.2.2.2.2.2.1;have f8:b<W6.heap.size:=(HFB.out W6 HZ.out.1.kp).2.2.2.2.2.2.2.2)
   |(refine st_nl rfl _ _ rfl Wb.heap.size sf sb r1.1 r3.1 rfl rfl (by first|exact HV.out.2.1|exact HV.out.2.1.stays (new_below _ _)) (by first|exact HV.out.2.2.2|exact HV.out.2.2.2.stays (new_below _ _)) HLN.out (by first|exact HV.out.1.kp.size|exact (HV.out.1.below (new_below _ _)).kp.size) ?_;intro tn W5 H5 HX5;have HB5:Hid (RS Wb W5 g a' len ca zs r3.2/\OwnN Wb.heap.size W5 (.slice tn.a tn.n tn.c) (r1.1++r3.1)/\UOwn Wb.heap.size W5 su r2.1):=⟨(by first|exact HV.out.1.offTy HX5.out|exact (HV.out.1.below (new_below _ _)).offTy HX5.out),H5.out,(by first|exact HV.out.2.2.1.offTy HX5.out|exact (HV.out.2.2.1.stays (new_below _ _)).offTy HX5.out)⟩;(try (have hD5:Hid (DBlk W5 W4.heap.size nilDA):=(show DBlk _ W4.heap.size nilDA from dblk_new W4.drew).offTy HX5.out));have e0:W5.cell? ⟨b,0,none⟩=some (.int .i64 nn):=(HFB.out W5 HB5.out.1.kp).1;have e1:W5.cell? ⟨b,1,none⟩=some (.int .i64 nf):=(HFB.out W5 HB5.out.1.kp).2.1;have e2:W5.cell? ⟨b,2,none⟩=some (.int .i64 nu):=(HFB.out W5 HB5.out.1.kp).2.2.1;have e3:W5.cell? ⟨b,3,none⟩=some (.int .i64 wd):=(HFB.out W5 HB5.out.1.kp).2.2.2.1;have e4:W5.cell? ⟨b,4,none⟩=some (.int .i64 nt):=(HFB.out W5 HB5.out.1.kp).2.2.2.2.1;have e5:W5.cell? ⟨b,5,none⟩=some (.int .i64 tg):=(HFB.out W5 HB5.out.1.kp).2.2.2.2.2.1;have e6:W5.cell? ⟨b,6,none⟩=some (.int .i64 tl):=(HFB.out W5 HB5.out.1.kp).2.2.2.2.2.2.1;have e7:W5.cell? ⟨b,7,none⟩=some (.int .i64 nr):=(HFB.out W5 HB5.out.1.kp).2.2.2.2.2.2.2.1;have e8:b<W5.heap.size:=(HFB.out W5 HB5.out.1.kp).2.2.2.2.2.2.2.2)
   |(go_simp;go_at_call 182;refine (KT2.out _ (by first|exact HV.out.1.rebase|exact (HV.out.1.below (new_below _ _)).rebase)).mono ?_;rintro e W5 ⟨sx,rfl,H5⟩;have HA5:Hid (RS Wb W5 g a' len ca zs r4.2/\OwnN Wb.heap.size W5 (.slice sf.a sf.n sf.c) r1.1/\UOwn Wb.heap.size W5 su r2.1/\OwnN Wb.heap.size W5 (.slice sb.a sb.n sb.c) r3.1/\Own1 Wb.heap.size W5 sx r4.1):=⟨(by first|exact HV.out.1.back H5.out.2|exact (HV.out.1.below (new_below _ _)).back H5.out.2),(by first|exact HV.out.2.1.kept H5.out.2.kp HV.out.1.gl|exact (HV.out.2.1.stays (new_below _ _)).kept H5.out.2.kp HV.out.1.gl),(by first|exact HV.out.2.2.1.kept H5.out.2.kp HV.out.1.gl|exact (HV.out.2.2.1.stays (new_below _ _)).kept H5.out.2.kp HV.out.1.gl),(by first|exact HV.out.2.2.2.kept H5.out.2.kp HV.out.1.gl|exact (HV.out.2.2.2.stays (new_below _ _)).kept H5.out.2.kp HV.out.1.gl),(by first|exact H5.out.1.mono HV.out.1.kp.size|exact H5.out.1.mono (HV.out.1.below (new_below _ _)).kp.size)⟩;(try (have hD5:Hid (DBlk W5 W4.heap.size nilDA):=(show DBlk _ W4.heap.size nilDA from dblk_new W4.drew).call H5.out.2.kp (Nat.lt_of_lt_of_le HG4.out.1.gl HG4.out.1.kp.size)));have e0:W5.cell? ⟨b,0,none⟩=some (.int .i64 nn):=(HFB.out W5 HA5.out.1.kp).1;have e1:W5.cell? ⟨b,1,none⟩=some (.int .i64 nf):=(HFB.out W5 HA5.out.1.kp).2.1;have e2:W5.cell? ⟨b,2,none⟩=some (.int .i64 nu):=(HFB.out W5 HA5.out.1.kp).2.2.1;have e3:W5.cell? ⟨b,3,none⟩=some (.int .i64 wd):=(HFB.out W5 HA5.out.1.kp).2.2.2.1;have e4:W5.cell? ⟨b,4,none⟩=some (.int .i64 nt):=(HFB.out W5 HA5.out.1.kp).2.2.2.2.1;have e5:W5.cell? ⟨b,5,none⟩=some (.int .i64 tg):=(HFB.out W5 HA5.out.1.kp).2.2.2.2.2.1;have e6:W5.cell? ⟨b,6,none⟩=some (.int .i64 tl):=(HFB.out W5 HA5.out.1.kp).2.2.2.2.2.2.1;have e7:W5.cell? ⟨b,7,none⟩=some (.int .i64 nr):=(HFB.out W5 HA5.out.1.kp).2.2.2.2.2.2.2.1;have e8:b<W5.heap.size:=(HFB.out W5 HA5.out.1.kp).2.2.2.2.2.2.2.2))
  all_goals
   go_wp2_with fail
   go_meet
   first
    |exact ⟨_,tn,sx,rfl,cut_new HZ.out⟩
    |exact ⟨_,tn,sx,rfl,cut_set HZ.out hD6.out (by first|exact HA5.out.1.kp.size|exact HB5.out.1.kp.size|exact HG4.out.1.kp.size)⟩
 case rest=>
  obtain ⟨D,tn,sx,rfl,HC⟩:=hcut
  have f7:=(HFB.out wc HC.out.rs.kp).2.2.2.2.2.2.2.1
  simp only at f7
  have HRB:Hid (∀W,Wb.grownBy W (some g)->DBlk W (b+1) nilDA):=fun W hW=>HBB.out.2.1.same (hW.block _ HBB.out.2.2.2.2.2 (fun e=>by have:=HBB.out.2.2.2.2.1;have:=Option.some.inj e;omega))
  have HBW:Hid (∀W,Wb.grownBy W (some g)->Below w.heap.size w W):=fun W hW=>by
   have h1:=HBB.out.2.2.1
   have h2:=HBB.out.2.2.2.2
   have h3:=Hb.out
   rw[h3] at h1
   exact ⟨hW.os.trans h1.os,hW.tape.trans h1.tape,hW.output.trans h1.output,Nat.le_trans h1.size hW.size,fun j hj=>(hW.block j (by omega) (fun e=>by have:=Option.some.inj e;omega)).trans (h1.block j hj)⟩
  have KL:Hid (∀W st,RS Wb W g a' len ca zs st->Calls Tryz.prog 184 #[.pointer (some ⟨g,0,none⟩)] W fun e w'=>e=.returned (.int .i64 (lft len st))/\Hid (RS Wb w' g a' len ca zs st/\W.grownBy w' (some g))):=fun W st hW=>(rleft_any g a' len ca zs st W hW.rst hW.rdW hW.hl hW.hc (by omega) hW.hd hW.off).mono (by rintro e w' ⟨rfl,H⟩;exact ⟨rfl,hW.to H.out.1 H.out.2,H.out.2⟩)
  have KB:Hid (∀W st,RS Wb W g a' len ca zs st->Calls Tryz.prog 185 #[.pointer (some ⟨g,0,none⟩)] W fun e w'=>e=.returned (.bool st.isNone)/\Hid (RS Wb w' g a' len ca zs st/\W.grownBy w' (some g))):=fun W st hW=>(rbad_any g a' len ca zs st W hW.rst hW.rdW hW.hl hW.hc (by omega) hW.hd hW.off).mono (by rintro e w' ⟨rfl,H⟩;exact ⟨rfl,hW.to H.out.1 H.out.2,H.out.2⟩)
  have KT:Hid (∀W st n,RS Wb W g a' len ca zs st->Calls Tryz.prog 183 #[.pointer (some ⟨g,0,none⟩),.int .i64 n] W fun e w'=>∃s:Sl,e=.returned (.slice s.a s.n s.c)/\Hid (BOwn Wb.heap.size w' s (tk zs st n)/\RS Wb w' g a' len ca zs (mv len st n)/\W.grownBy w' (some g))):=fun W st n hW=>rtake2 Wb W g a' len ca zs st n hW
  clear HG4 HV KT2 s0 s1 s2 s3 s4 s5 s6 s7 s8 HLN hnfw hc hl
  by_cases hnr:nr=0
  ·have hnr':(nr != 0)=false:=by simp[hnr]
   have HQ:Hid (CutS Wb wc g a' len ca zs PR.2 D ⟨tn,su,sx,⟨none,0,0⟩⟩ PR.1):=by
    have e:=HPR.out
    rw[if_pos hnr] at e
    rw[e]
    exact HC.out
   clear HC HPR HN
   obtain ⟨d,st⟩:=PR
   simp only at HQ ⊢
   go_wp2_with fail
   have d0:wc.cell? ⟨D,0,none⟩=some (.slice tn.a tn.n tn.c):=HQ.out.blk.box.1
   have d1:wc.cell? ⟨D,1,none⟩=some (.slice su.a su.n su.c):=HQ.out.blk.box.2.1
   have d2:wc.cell? ⟨D,2,none⟩=some (.slice sx.a sx.n sx.c):=HQ.out.blk.box.2.2.1
   have d3:wc.cell? ⟨D,3,none⟩=some (.slice none 0 0):=HQ.out.blk.box.2.2.2.1
   have HQD:Hid (∀W,wc.grownBy W (some g)->DBlk W D ⟨tn,su,sx,⟨none,0,0⟩⟩):=fun W hW=>HQ.out.blk.call hW (Nat.lt_of_lt_of_le HQ.out.rs.gl HQ.out.low)
   have HVD:Hid (RS Wb wc.drew g a' len ca zs st):=HQ.out.rs.below (Below.refl _ _).drew
   have hDb:¬ b+1=D:=by have h1:=HBB.out.2.2.2.2.2;have h2:=HQ.out.low;omega
   have hDb2:¬ D=b+1:=by omega
   cases st with
   |none=>
    have KLs:=KL.out _ none HVD.out
    have K1:Hid (Calls Tryz.prog 184 #[.pointer (some ⟨g,0,none⟩)] wc.drew fun e w'=>e=.returned (.int .i64 0)/\Hid (RS Wb w' g a' len ca zs none/\wc.drew.grownBy w' (some g))):=KLs
    have K2:Hid (∀W,RS Wb W g a' len ca zs none->Calls Tryz.prog 185 #[.pointer (some ⟨g,0,none⟩)] W fun e w'=>e=.returned (.bool true)/\Hid (RS Wb w' g a' len ca zs none/\W.grownBy w' (some g))):=fun W hW=>KB.out W none hW
    clear KL KB KT KLs
    go_wp2_with fail
    go_region_held3 (fun W=>W.cell? ⟨D,0,none⟩=some (.slice tn.a tn.n tn.c)/\W.cell? ⟨D,1,none⟩=some (.slice su.a su.n su.c)/\W.cell? ⟨D,2,none⟩=some (.slice sx.a sx.n sx.c)/\W.cell? ⟨D,3,none⟩=some (.slice none 0 0)) (exact ⟨by go_keep,by go_keep,by go_keep,by go_keep⟩) (first
     |(go_at_call 184;refine K1.out.mono ?_;rintro e V1 ⟨rfl,H1⟩;have HG1:Hid (wc.grownBy V1 (some g)):=grown2 (below_grown (Below.refl _ _).drew) H1.out.2;have e0:V1.cell? ⟨D,0,none⟩=some (.slice tn.a tn.n tn.c):=(HQD.out V1 HG1.out).box.1;have e1:V1.cell? ⟨D,1,none⟩=some (.slice su.a su.n su.c):=(HQD.out V1 HG1.out).box.2.1;have e2:V1.cell? ⟨D,2,none⟩=some (.slice sx.a sx.n sx.c):=(HQD.out V1 HG1.out).box.2.2.1;have e3:V1.cell? ⟨D,3,none⟩=some (.slice none 0 0):=(HQD.out V1 HG1.out).box.2.2.2.1;have er0:V1.cell? ⟨b+1,0,none⟩=some (.slice none 0 0):=(HRB.out V1 H1.out.1.kp).box.1;have ez0:=(HRB.out V1 H1.out.1.kp).fz 0;have er1:V1.cell? ⟨b+1,1,none⟩=some (.slice none 0 0):=(HRB.out V1 H1.out.1.kp).box.2.1;have ez1:=(HRB.out V1 H1.out.1.kp).fz 1;have er2:V1.cell? ⟨b+1,2,none⟩=some (.slice none 0 0):=(HRB.out V1 H1.out.1.kp).box.2.2.1;have ez2:=(HRB.out V1 H1.out.1.kp).fz 2;have er3:V1.cell? ⟨b+1,3,none⟩=some (.slice none 0 0):=(HRB.out V1 H1.out.1.kp).box.2.2.2.1;have ez3:=(HRB.out V1 H1.out.1.kp).fz 3;have el:b+1<V1.heap.size:=(HRB.out V1 H1.out.1.kp).lt)
     |(go_at_call 185;refine (K2.out _ H1.out.1).mono ?_;rintro e V2 ⟨rfl,H2⟩;have HV2:Hid (RS Wb V2 g a' len ca zs none/\wc.grownBy V2 (some g)):=⟨H2.out.1,grown2 HG1.out H2.out.2⟩;have f0:V2.cell? ⟨D,0,none⟩=some (.slice tn.a tn.n tn.c):=(HQD.out V2 HV2.out.2).box.1;have f1:V2.cell? ⟨D,1,none⟩=some (.slice su.a su.n su.c):=(HQD.out V2 HV2.out.2).box.2.1;have f2:V2.cell? ⟨D,2,none⟩=some (.slice sx.a sx.n sx.c):=(HQD.out V2 HV2.out.2).box.2.2.1;have f3:V2.cell? ⟨D,3,none⟩=some (.slice none 0 0):=(HQD.out V2 HV2.out.2).box.2.2.2.1;have fr0:V2.cell? ⟨b+1,0,none⟩=some (.slice none 0 0):=(HRB.out V2 H2.out.1.kp).box.1;have fz0:=(HRB.out V2 H2.out.1.kp).fz 0;have fr1:V2.cell? ⟨b+1,1,none⟩=some (.slice none 0 0):=(HRB.out V2 H2.out.1.kp).box.2.1;have fz1:=(HRB.out V2 H2.out.1.kp).fz 1;have fr2:V2.cell? ⟨b+1,2,none⟩=some (.slice none 0 0):=(HRB.out V2 H2.out.1.kp).box.2.2.1;have fz2:=(HRB.out V2 H2.out.1.kp).fz 2;have fr3:V2.cell? ⟨b+1,3,none⟩=some (.slice none 0 0):=(HRB.out V2 H2.out.1.kp).box.2.2.2.1;have fz3:=(HRB.out V2 H2.out.1.kp).fz 3;have fl:b+1<V2.heap.size:=(HRB.out V2 H2.out.1.kp).lt))
    all_goals
     go_wp2_with fail
     have HX:Hid (DBlk ((((V2.setCell ⟨b+1,0,none⟩ (.slice tn.a tn.n tn.c)).setCell ⟨b+1,1,none⟩ (.slice su.a su.n su.c)).setCell ⟨b+1,2,none⟩ (.slice sx.a sx.n sx.c)).setCell ⟨b+1,3,none⟩ (.slice none 0 0)) (b+1) ⟨tn,su,sx,⟨none,0,0⟩⟩/\DOwn w.heap.size ((((V2.setCell ⟨b+1,0,none⟩ (.slice tn.a tn.n tn.c)).setCell ⟨b+1,1,none⟩ (.slice su.a su.n su.c)).setCell ⟨b+1,2,none⟩ (.slice sx.a sx.n sx.c)).setCell ⟨b+1,3,none⟩ (.slice none 0 0)) ⟨tn,su,sx,⟨none,0,0⟩⟩ d/\Below w.heap.size w ((((V2.setCell ⟨b+1,0,none⟩ (.slice tn.a tn.n tn.c)).setCell ⟨b+1,1,none⟩ (.slice su.a su.n su.c)).setCell ⟨b+1,2,none⟩ (.slice sx.a sx.n sx.c)).setCell ⟨b+1,3,none⟩ (.slice none 0 0))):=(HQ.out.rd HV2.out.1 HV2.out.2).ret (HRB.out V2 HV2.out.1.kp) HBB.out.2.2.2.2.2 (by have:=Hb.out;omega) (HBW.out V2 HV2.out.1.kp)
     generalize ((((V2.setCell ⟨b+1,0,none⟩ (.slice tn.a tn.n tn.c)).setCell ⟨b+1,1,none⟩ (.slice su.a su.n su.c)).setCell ⟨b+1,2,none⟩ (.slice sx.a sx.n sx.c)).setCell ⟨b+1,3,none⟩ (.slice none 0 0))=W9 at*
     have k0:=HX.out.1.box.1
     have k1:=HX.out.1.box.2.1
     have k2:=HX.out.1.box.2.2.1
     have k3:=HX.out.1.box.2.2.2.1
     simp only at k0 k1 k2 k3
     exact bodyPost_ret (v:=.tuple #[.agg #[.slice tn.a tn.n tn.c,.slice su.a su.n su.c,.slice sx.a sx.n sx.c,.slice none 0 0],.bool false]) (by simp[results,Tryz.results171,go_sem,k0,k1,k2,k3]) rfl ⟨⟨tn,su,sx,⟨none,0,0⟩⟩,by simp,HX.out.2.1,HX.out.2.2⟩
   |some k=>
    have KLs:=KL.out _ (some k) HVD.out
    have hkl:k<=len:=HQ.out.rs.rst.le k rfl
    by_cases hke:k=len
    ·subst hke
     have hz:lft k (some k)=0:=by simp[lft]
     rw[hz] at KLs
     clear hz
     have K1:Hid (Calls Tryz.prog 184 #[.pointer (some ⟨g,0,none⟩)] wc.drew fun e w'=>e=.returned (.int .i64 0)/\Hid (RS Wb w' g a' k ca zs (some k)/\wc.drew.grownBy w' (some g))):=KLs
     have K2:Hid (∀W,RS Wb W g a' k ca zs (some k)->Calls Tryz.prog 185 #[.pointer (some ⟨g,0,none⟩)] W fun e w'=>e=.returned (.bool false)/\Hid (RS Wb w' g a' k ca zs (some k)/\W.grownBy w' (some g))):=fun W hW=>KB.out W (some k) hW
     clear KL KB KT KLs
     go_wp2_with fail
     go_region_held3 (fun W=>W.cell? ⟨D,0,none⟩=some (.slice tn.a tn.n tn.c)/\W.cell? ⟨D,1,none⟩=some (.slice su.a su.n su.c)/\W.cell? ⟨D,2,none⟩=some (.slice sx.a sx.n sx.c)/\W.cell? ⟨D,3,none⟩=some (.slice none 0 0)) (exact ⟨by go_keep,by go_keep,by go_keep,by go_keep⟩) (first
      |(go_at_call 184;refine K1.out.mono ?_;rintro e V1 ⟨rfl,H1⟩;have HG1:Hid (wc.grownBy V1 (some g)):=grown2 (below_grown (Below.refl _ _).drew) H1.out.2;have e0:V1.cell? ⟨D,0,none⟩=some (.slice tn.a tn.n tn.c):=(HQD.out V1 HG1.out).box.1;have e1:V1.cell? ⟨D,1,none⟩=some (.slice su.a su.n su.c):=(HQD.out V1 HG1.out).box.2.1;have e2:V1.cell? ⟨D,2,none⟩=some (.slice sx.a sx.n sx.c):=(HQD.out V1 HG1.out).box.2.2.1;have e3:V1.cell? ⟨D,3,none⟩=some (.slice none 0 0):=(HQD.out V1 HG1.out).box.2.2.2.1;have er0:V1.cell? ⟨b+1,0,none⟩=some (.slice none 0 0):=(HRB.out V1 H1.out.1.kp).box.1;have ez0:=(HRB.out V1 H1.out.1.kp).fz 0;have er1:V1.cell? ⟨b+1,1,none⟩=some (.slice none 0 0):=(HRB.out V1 H1.out.1.kp).box.2.1;have ez1:=(HRB.out V1 H1.out.1.kp).fz 1;have er2:V1.cell? ⟨b+1,2,none⟩=some (.slice none 0 0):=(HRB.out V1 H1.out.1.kp).box.2.2.1;have ez2:=(HRB.out V1 H1.out.1.kp).fz 2;have er3:V1.cell? ⟨b+1,3,none⟩=some (.slice none 0 0):=(HRB.out V1 H1.out.1.kp).box.2.2.2.1;have ez3:=(HRB.out V1 H1.out.1.kp).fz 3;have el:b+1<V1.heap.size:=(HRB.out V1 H1.out.1.kp).lt)
      |(go_at_call 185;refine (K2.out _ H1.out.1).mono ?_;rintro e V2 ⟨rfl,H2⟩;have HV2:Hid (RS Wb V2 g a' k ca zs (some k)/\wc.grownBy V2 (some g)):=⟨H2.out.1,grown2 HG1.out H2.out.2⟩;have f0:V2.cell? ⟨D,0,none⟩=some (.slice tn.a tn.n tn.c):=(HQD.out V2 HV2.out.2).box.1;have f1:V2.cell? ⟨D,1,none⟩=some (.slice su.a su.n su.c):=(HQD.out V2 HV2.out.2).box.2.1;have f2:V2.cell? ⟨D,2,none⟩=some (.slice sx.a sx.n sx.c):=(HQD.out V2 HV2.out.2).box.2.2.1;have f3:V2.cell? ⟨D,3,none⟩=some (.slice none 0 0):=(HQD.out V2 HV2.out.2).box.2.2.2.1;have fr0:V2.cell? ⟨b+1,0,none⟩=some (.slice none 0 0):=(HRB.out V2 H2.out.1.kp).box.1;have fz0:=(HRB.out V2 H2.out.1.kp).fz 0;have fr1:V2.cell? ⟨b+1,1,none⟩=some (.slice none 0 0):=(HRB.out V2 H2.out.1.kp).box.2.1;have fz1:=(HRB.out V2 H2.out.1.kp).fz 1;have fr2:V2.cell? ⟨b+1,2,none⟩=some (.slice none 0 0):=(HRB.out V2 H2.out.1.kp).box.2.2.1;have fz2:=(HRB.out V2 H2.out.1.kp).fz 2;have fr3:V2.cell? ⟨b+1,3,none⟩=some (.slice none 0 0):=(HRB.out V2 H2.out.1.kp).box.2.2.2.1;have fz3:=(HRB.out V2 H2.out.1.kp).fz 3;have fl:b+1<V2.heap.size:=(HRB.out V2 H2.out.1.kp).lt))
     all_goals
      go_wp2_with fail
      have HX:Hid (DBlk ((((V2.setCell ⟨b+1,0,none⟩ (.slice tn.a tn.n tn.c)).setCell ⟨b+1,1,none⟩ (.slice su.a su.n su.c)).setCell ⟨b+1,2,none⟩ (.slice sx.a sx.n sx.c)).setCell ⟨b+1,3,none⟩ (.slice none 0 0)) (b+1) ⟨tn,su,sx,⟨none,0,0⟩⟩/\DOwn w.heap.size ((((V2.setCell ⟨b+1,0,none⟩ (.slice tn.a tn.n tn.c)).setCell ⟨b+1,1,none⟩ (.slice su.a su.n su.c)).setCell ⟨b+1,2,none⟩ (.slice sx.a sx.n sx.c)).setCell ⟨b+1,3,none⟩ (.slice none 0 0)) ⟨tn,su,sx,⟨none,0,0⟩⟩ d/\Below w.heap.size w ((((V2.setCell ⟨b+1,0,none⟩ (.slice tn.a tn.n tn.c)).setCell ⟨b+1,1,none⟩ (.slice su.a su.n su.c)).setCell ⟨b+1,2,none⟩ (.slice sx.a sx.n sx.c)).setCell ⟨b+1,3,none⟩ (.slice none 0 0))):=(HQ.out.rd HV2.out.1 HV2.out.2).ret (HRB.out V2 HV2.out.1.kp) HBB.out.2.2.2.2.2 (by have:=Hb.out;omega) (HBW.out V2 HV2.out.1.kp)
      generalize ((((V2.setCell ⟨b+1,0,none⟩ (.slice tn.a tn.n tn.c)).setCell ⟨b+1,1,none⟩ (.slice su.a su.n su.c)).setCell ⟨b+1,2,none⟩ (.slice sx.a sx.n sx.c)).setCell ⟨b+1,3,none⟩ (.slice none 0 0))=W9 at*
      have k0:=HX.out.1.box.1
      have k1:=HX.out.1.box.2.1
      have k2:=HX.out.1.box.2.2.1
      have k3:=HX.out.1.box.2.2.2.1
      simp only at k0 k1 k2 k3
      exact bodyPost_ret (v:=.tuple #[.agg #[.slice tn.a tn.n tn.c,.slice su.a su.n su.c,.slice sx.a sx.n sx.c,.slice none 0 0],.bool true]) (by simp[results,Tryz.results171,go_sem,k0,k1,k2,k3]) rfl ⟨⟨tn,su,sx,⟨none,0,0⟩⟩,by simp,HX.out.2.1,HX.out.2.2⟩
    ·obtain ⟨m,hm2⟩:∃m:Nat,len=k+m+1:=⟨len - k - 1,by omega⟩
     have hz:lft len (some k)=(m:Int)+1:=by
      show (len:Int) - (k:Int)=_
      omega
     rw[hz] at KLs
     clear hz hm2
     have hm0:¬ ((m:Int)+1=0):=by omega
     have hm1:((m:Int)+1 == 0)=false:=by simpa using hm0
     have K1:Hid (Calls Tryz.prog 184 #[.pointer (some ⟨g,0,none⟩)] wc.drew fun e w'=>e=.returned (.int .i64 ((m:Int)+1))/\Hid (RS Wb w' g a' len ca zs (some k)/\wc.drew.grownBy w' (some g))):=KLs
     clear KL KB KT KLs
     go_wp2_with fail
     first
      |(go_region_with (first
      |(go_at_call 184;refine K1.out.mono ?_;rintro e V2 ⟨rfl,HV2⟩;have HV3:Hid (wc.grownBy V2 (some g)):=grown2 (below_grown (Below.refl _ _).drew) HV2.out.2;have e0:V2.cell? ⟨D,0,none⟩=some (.slice tn.a tn.n tn.c):=(HQD.out V2 HV3.out).box.1;have e1:V2.cell? ⟨D,1,none⟩=some (.slice su.a su.n su.c):=(HQD.out V2 HV3.out).box.2.1;have e2:V2.cell? ⟨D,2,none⟩=some (.slice sx.a sx.n sx.c):=(HQD.out V2 HV3.out).box.2.2.1;have e3:V2.cell? ⟨D,3,none⟩=some (.slice none 0 0):=(HQD.out V2 HV3.out).box.2.2.2.1;have er0:V2.cell? ⟨b+1,0,none⟩=some (.slice none 0 0):=(HRB.out V2 HV2.out.1.kp).box.1;have ez0:=(HRB.out V2 HV2.out.1.kp).fz 0;have er1:V2.cell? ⟨b+1,1,none⟩=some (.slice none 0 0):=(HRB.out V2 HV2.out.1.kp).box.2.1;have ez1:=(HRB.out V2 HV2.out.1.kp).fz 1;have er2:V2.cell? ⟨b+1,2,none⟩=some (.slice none 0 0):=(HRB.out V2 HV2.out.1.kp).box.2.2.1;have ez2:=(HRB.out V2 HV2.out.1.kp).fz 2;have er3:V2.cell? ⟨b+1,3,none⟩=some (.slice none 0 0):=(HRB.out V2 HV2.out.1.kp).box.2.2.2.1;have ez3:=(HRB.out V2 HV2.out.1.kp).fz 3;have el:b+1<V2.heap.size:=(HRB.out V2 HV2.out.1.kp).lt)))
      |fail
     all_goals
      go_wp2_with fail
      have HX:Hid (DBlk ((((V2.setCell ⟨b+1,0,none⟩ (.slice tn.a tn.n tn.c)).setCell ⟨b+1,1,none⟩ (.slice su.a su.n su.c)).setCell ⟨b+1,2,none⟩ (.slice sx.a sx.n sx.c)).setCell ⟨b+1,3,none⟩ (.slice none 0 0)) (b+1) ⟨tn,su,sx,⟨none,0,0⟩⟩/\DOwn w.heap.size ((((V2.setCell ⟨b+1,0,none⟩ (.slice tn.a tn.n tn.c)).setCell ⟨b+1,1,none⟩ (.slice su.a su.n su.c)).setCell ⟨b+1,2,none⟩ (.slice sx.a sx.n sx.c)).setCell ⟨b+1,3,none⟩ (.slice none 0 0)) ⟨tn,su,sx,⟨none,0,0⟩⟩ d/\Below w.heap.size w ((((V2.setCell ⟨b+1,0,none⟩ (.slice tn.a tn.n tn.c)).setCell ⟨b+1,1,none⟩ (.slice su.a su.n su.c)).setCell ⟨b+1,2,none⟩ (.slice sx.a sx.n sx.c)).setCell ⟨b+1,3,none⟩ (.slice none 0 0))):=(HQ.out.rd HV2.out.1 HV3.out).ret (HRB.out V2 HV2.out.1.kp) HBB.out.2.2.2.2.2 (by have:=Hb.out;omega) (HBW.out V2 HV2.out.1.kp)
      generalize ((((V2.setCell ⟨b+1,0,none⟩ (.slice tn.a tn.n tn.c)).setCell ⟨b+1,1,none⟩ (.slice su.a su.n su.c)).setCell ⟨b+1,2,none⟩ (.slice sx.a sx.n sx.c)).setCell ⟨b+1,3,none⟩ (.slice none 0 0))=W9 at*
      have k0:=HX.out.1.box.1
      have k1:=HX.out.1.box.2.1
      have k2:=HX.out.1.box.2.2.1
      have k3:=HX.out.1.box.2.2.2.1
      simp only at k0 k1 k2 k3
      exact bodyPost_ret (v:=.tuple #[.agg #[.slice tn.a tn.n tn.c,.slice su.a su.n su.c,.slice sx.a sx.n sx.c,.slice none 0 0],.bool false]) (by simp[results,Tryz.results171,go_sem,k0,k1,k2,k3]) rfl ⟨⟨tn,su,sx,⟨none,0,0⟩⟩,by simp,HX.out.2.1,HX.out.2.2⟩
  ·have hnr':(nr != 0)=true:=by simp[hnr]
   have K1:Hid (Calls Tryz.prog 184 #[.pointer (some ⟨g,0,none⟩)] wc fun e w'=>e=.returned (.int .i64 (lft len r4.2))/\Hid (RS Wb w' g a' len ca zs r4.2/\wc.grownBy w' (some g))):=KL.out wc r4.2 HC.out.rs
   have K2:Hid (∀W,RS Wb W g a' len ca zs r4.2->Calls Tryz.prog 183 #[.pointer (some ⟨g,0,none⟩),.int .i64 (lft len r4.2)] W fun e w'=>∃s:Sl,e=.returned (.slice s.a s.n s.c)/\Hid (BOwn Wb.heap.size w' s (tk zs r4.2 (lft len r4.2))/\RS Wb w' g a' len ca zs (mv len r4.2 (lft len r4.2))/\W.grownBy w' (some g))):=fun W hW=>KT.out W r4.2 _ hW
   have HPR2:Hid (PR=(⟨r1.1++r3.1,r2.1,r4.1,tk zs r4.2 (lft len r4.2)⟩,mv len r4.2 (lft len r4.2))):=by
    have e:=HPR.out
    rw[if_neg hnr] at e
    exact e
   clear HPR HN
   obtain ⟨z,hz⟩:∃z,lft len r4.2=z:=⟨_,rfl⟩
   rw[hz] at K1 K2 HPR2
   clear hz
   go_wp2_with fail
   refine K1.out.mono ?_
   rintro e W7 ⟨rfl,H7⟩
   go_wp2_with fail
   refine (K2.out _ H7.out.1).mono ?_
   rintro e W8 ⟨s8,rfl,H8⟩
   have HC8:Hid (CutS Wb W8 g a' len ca zs (mv len r4.2 z) D ⟨tn,su,sx,⟨none,0,0⟩⟩ ⟨r1.1++r3.1,r2.1,r4.1,[]⟩):=(HC.out.rd H7.out.1 H7.out.2).rd H8.out.2.1 H8.out.2.2
   have HQ:Hid (CutS Wb (W8.setCell ⟨D,3,none⟩ (.slice s8.a s8.n s8.c)) g a' len ca zs PR.2 D ⟨tn,su,sx,s8⟩ PR.1):=by
    rw[HPR2.out]
    exact HC8.out.raw H8.out.1
   have c3:=HC8.out.blk.box.2.2.2.1
   have c4:=HC8.out.blk.fz 3
   have c5:=HC8.out.blk.lt
   simp only at c3
   clear HC HPR2 K1 K2 H7 H8 f7
   obtain ⟨d,st⟩:=PR
   obtain ⟨a8,n8,c8⟩:=s8
   simp only at HQ ⊢
   go_upto_region 8 with fail
   generalize W8.setCell ⟨D,3,none⟩ (.slice a8 n8 c8)=W9 at*
   clear HC8 c3 c4 c5
   have d0:W9.cell? ⟨D,0,none⟩=some (.slice tn.a tn.n tn.c):=HQ.out.blk.box.1
   have d1:W9.cell? ⟨D,1,none⟩=some (.slice su.a su.n su.c):=HQ.out.blk.box.2.1
   have d2:W9.cell? ⟨D,2,none⟩=some (.slice sx.a sx.n sx.c):=HQ.out.blk.box.2.2.1
   have d3:W9.cell? ⟨D,3,none⟩=some (.slice a8 n8 c8):=HQ.out.blk.box.2.2.2.1
   have HQD:Hid (∀W,W9.grownBy W (some g)->DBlk W D ⟨tn,su,sx,⟨a8,n8,c8⟩⟩):=fun W hW=>HQ.out.blk.call hW (Nat.lt_of_lt_of_le HQ.out.rs.gl HQ.out.low)
   have HVD:Hid (RS Wb W9.drew g a' len ca zs st):=HQ.out.rs.below (Below.refl _ _).drew
   have hDb:¬ b+1=D:=by have h1:=HBB.out.2.2.2.2.2;have h2:=HQ.out.low;omega
   have hDb2:¬ D=b+1:=by omega
   cases st with
   |none=>
    have KLs:=KL.out _ none HVD.out
    have K1:Hid (Calls Tryz.prog 184 #[.pointer (some ⟨g,0,none⟩)] W9.drew fun e w'=>e=.returned (.int .i64 0)/\Hid (RS Wb w' g a' len ca zs none/\W9.drew.grownBy w' (some g))):=KLs
    have K2:Hid (∀W,RS Wb W g a' len ca zs none->Calls Tryz.prog 185 #[.pointer (some ⟨g,0,none⟩)] W fun e w'=>e=.returned (.bool true)/\Hid (RS Wb w' g a' len ca zs none/\W.grownBy w' (some g))):=fun W hW=>KB.out W none hW
    clear KL KB KT KLs
    go_wp2_with fail
    go_region_held3 (fun W=>W.cell? ⟨D,0,none⟩=some (.slice tn.a tn.n tn.c)/\W.cell? ⟨D,1,none⟩=some (.slice su.a su.n su.c)/\W.cell? ⟨D,2,none⟩=some (.slice sx.a sx.n sx.c)/\W.cell? ⟨D,3,none⟩=some (.slice a8 n8 c8)) (exact ⟨by go_keep,by go_keep,by go_keep,by go_keep⟩) (first
     |(go_at_call 184;refine K1.out.mono ?_;rintro e V1 ⟨rfl,H1⟩;have HG1:Hid (W9.grownBy V1 (some g)):=grown2 (below_grown (Below.refl _ _).drew) H1.out.2;have e0:V1.cell? ⟨D,0,none⟩=some (.slice tn.a tn.n tn.c):=(HQD.out V1 HG1.out).box.1;have e1:V1.cell? ⟨D,1,none⟩=some (.slice su.a su.n su.c):=(HQD.out V1 HG1.out).box.2.1;have e2:V1.cell? ⟨D,2,none⟩=some (.slice sx.a sx.n sx.c):=(HQD.out V1 HG1.out).box.2.2.1;have e3:V1.cell? ⟨D,3,none⟩=some (.slice a8 n8 c8):=(HQD.out V1 HG1.out).box.2.2.2.1;have er0:V1.cell? ⟨b+1,0,none⟩=some (.slice none 0 0):=(HRB.out V1 H1.out.1.kp).box.1;have ez0:=(HRB.out V1 H1.out.1.kp).fz 0;have er1:V1.cell? ⟨b+1,1,none⟩=some (.slice none 0 0):=(HRB.out V1 H1.out.1.kp).box.2.1;have ez1:=(HRB.out V1 H1.out.1.kp).fz 1;have er2:V1.cell? ⟨b+1,2,none⟩=some (.slice none 0 0):=(HRB.out V1 H1.out.1.kp).box.2.2.1;have ez2:=(HRB.out V1 H1.out.1.kp).fz 2;have er3:V1.cell? ⟨b+1,3,none⟩=some (.slice none 0 0):=(HRB.out V1 H1.out.1.kp).box.2.2.2.1;have ez3:=(HRB.out V1 H1.out.1.kp).fz 3;have el:b+1<V1.heap.size:=(HRB.out V1 H1.out.1.kp).lt)
     |(go_at_call 185;refine (K2.out _ H1.out.1).mono ?_;rintro e V2 ⟨rfl,H2⟩;have HV2:Hid (RS Wb V2 g a' len ca zs none/\W9.grownBy V2 (some g)):=⟨H2.out.1,grown2 HG1.out H2.out.2⟩;have f0:V2.cell? ⟨D,0,none⟩=some (.slice tn.a tn.n tn.c):=(HQD.out V2 HV2.out.2).box.1;have f1:V2.cell? ⟨D,1,none⟩=some (.slice su.a su.n su.c):=(HQD.out V2 HV2.out.2).box.2.1;have f2:V2.cell? ⟨D,2,none⟩=some (.slice sx.a sx.n sx.c):=(HQD.out V2 HV2.out.2).box.2.2.1;have f3:V2.cell? ⟨D,3,none⟩=some (.slice a8 n8 c8):=(HQD.out V2 HV2.out.2).box.2.2.2.1;have fr0:V2.cell? ⟨b+1,0,none⟩=some (.slice none 0 0):=(HRB.out V2 H2.out.1.kp).box.1;have fz0:=(HRB.out V2 H2.out.1.kp).fz 0;have fr1:V2.cell? ⟨b+1,1,none⟩=some (.slice none 0 0):=(HRB.out V2 H2.out.1.kp).box.2.1;have fz1:=(HRB.out V2 H2.out.1.kp).fz 1;have fr2:V2.cell? ⟨b+1,2,none⟩=some (.slice none 0 0):=(HRB.out V2 H2.out.1.kp).box.2.2.1;have fz2:=(HRB.out V2 H2.out.1.kp).fz 2;have fr3:V2.cell? ⟨b+1,3,none⟩=some (.slice none 0 0):=(HRB.out V2 H2.out.1.kp).box.2.2.2.1;have fz3:=(HRB.out V2 H2.out.1.kp).fz 3;have fl:b+1<V2.heap.size:=(HRB.out V2 H2.out.1.kp).lt))
    all_goals
     go_wp2_with fail
     have HX:Hid (DBlk ((((V2.setCell ⟨b+1,0,none⟩ (.slice tn.a tn.n tn.c)).setCell ⟨b+1,1,none⟩ (.slice su.a su.n su.c)).setCell ⟨b+1,2,none⟩ (.slice sx.a sx.n sx.c)).setCell ⟨b+1,3,none⟩ (.slice a8 n8 c8)) (b+1) ⟨tn,su,sx,⟨a8,n8,c8⟩⟩/\DOwn w.heap.size ((((V2.setCell ⟨b+1,0,none⟩ (.slice tn.a tn.n tn.c)).setCell ⟨b+1,1,none⟩ (.slice su.a su.n su.c)).setCell ⟨b+1,2,none⟩ (.slice sx.a sx.n sx.c)).setCell ⟨b+1,3,none⟩ (.slice a8 n8 c8)) ⟨tn,su,sx,⟨a8,n8,c8⟩⟩ d/\Below w.heap.size w ((((V2.setCell ⟨b+1,0,none⟩ (.slice tn.a tn.n tn.c)).setCell ⟨b+1,1,none⟩ (.slice su.a su.n su.c)).setCell ⟨b+1,2,none⟩ (.slice sx.a sx.n sx.c)).setCell ⟨b+1,3,none⟩ (.slice a8 n8 c8))):=(HQ.out.rd HV2.out.1 HV2.out.2).ret (HRB.out V2 HV2.out.1.kp) HBB.out.2.2.2.2.2 (by have:=Hb.out;omega) (HBW.out V2 HV2.out.1.kp)
     generalize ((((V2.setCell ⟨b+1,0,none⟩ (.slice tn.a tn.n tn.c)).setCell ⟨b+1,1,none⟩ (.slice su.a su.n su.c)).setCell ⟨b+1,2,none⟩ (.slice sx.a sx.n sx.c)).setCell ⟨b+1,3,none⟩ (.slice a8 n8 c8))=W99 at*
     have k0:=HX.out.1.box.1
     have k1:=HX.out.1.box.2.1
     have k2:=HX.out.1.box.2.2.1
     have k3:=HX.out.1.box.2.2.2.1
     simp only at k0 k1 k2 k3
     exact bodyPost_ret (v:=.tuple #[.agg #[.slice tn.a tn.n tn.c,.slice su.a su.n su.c,.slice sx.a sx.n sx.c,.slice a8 n8 c8],.bool false]) (by simp[results,Tryz.results171,go_sem,k0,k1,k2,k3]) rfl ⟨⟨tn,su,sx,⟨a8,n8,c8⟩⟩,by simp,HX.out.2.1,HX.out.2.2⟩
   |some k=>
    have KLs:=KL.out _ (some k) HVD.out
    have hkl:k<=len:=HQ.out.rs.rst.le k rfl
    by_cases hke:k=len
    ·subst hke
     have hz:lft k (some k)=0:=by simp[lft]
     rw[hz] at KLs
     clear hz
     have K1:Hid (Calls Tryz.prog 184 #[.pointer (some ⟨g,0,none⟩)] W9.drew fun e w'=>e=.returned (.int .i64 0)/\Hid (RS Wb w' g a' k ca zs (some k)/\W9.drew.grownBy w' (some g))):=KLs
     have K2:Hid (∀W,RS Wb W g a' k ca zs (some k)->Calls Tryz.prog 185 #[.pointer (some ⟨g,0,none⟩)] W fun e w'=>e=.returned (.bool false)/\Hid (RS Wb w' g a' k ca zs (some k)/\W.grownBy w' (some g))):=fun W hW=>KB.out W (some k) hW
     clear KL KB KT KLs
     go_wp2_with fail
     go_region_held3 (fun W=>W.cell? ⟨D,0,none⟩=some (.slice tn.a tn.n tn.c)/\W.cell? ⟨D,1,none⟩=some (.slice su.a su.n su.c)/\W.cell? ⟨D,2,none⟩=some (.slice sx.a sx.n sx.c)/\W.cell? ⟨D,3,none⟩=some (.slice a8 n8 c8)) (exact ⟨by go_keep,by go_keep,by go_keep,by go_keep⟩) (first
      |(go_at_call 184;refine K1.out.mono ?_;rintro e V1 ⟨rfl,H1⟩;have HG1:Hid (W9.grownBy V1 (some g)):=grown2 (below_grown (Below.refl _ _).drew) H1.out.2;have e0:V1.cell? ⟨D,0,none⟩=some (.slice tn.a tn.n tn.c):=(HQD.out V1 HG1.out).box.1;have e1:V1.cell? ⟨D,1,none⟩=some (.slice su.a su.n su.c):=(HQD.out V1 HG1.out).box.2.1;have e2:V1.cell? ⟨D,2,none⟩=some (.slice sx.a sx.n sx.c):=(HQD.out V1 HG1.out).box.2.2.1;have e3:V1.cell? ⟨D,3,none⟩=some (.slice a8 n8 c8):=(HQD.out V1 HG1.out).box.2.2.2.1;have er0:V1.cell? ⟨b+1,0,none⟩=some (.slice none 0 0):=(HRB.out V1 H1.out.1.kp).box.1;have ez0:=(HRB.out V1 H1.out.1.kp).fz 0;have er1:V1.cell? ⟨b+1,1,none⟩=some (.slice none 0 0):=(HRB.out V1 H1.out.1.kp).box.2.1;have ez1:=(HRB.out V1 H1.out.1.kp).fz 1;have er2:V1.cell? ⟨b+1,2,none⟩=some (.slice none 0 0):=(HRB.out V1 H1.out.1.kp).box.2.2.1;have ez2:=(HRB.out V1 H1.out.1.kp).fz 2;have er3:V1.cell? ⟨b+1,3,none⟩=some (.slice none 0 0):=(HRB.out V1 H1.out.1.kp).box.2.2.2.1;have ez3:=(HRB.out V1 H1.out.1.kp).fz 3;have el:b+1<V1.heap.size:=(HRB.out V1 H1.out.1.kp).lt)
      |(go_at_call 185;refine (K2.out _ H1.out.1).mono ?_;rintro e V2 ⟨rfl,H2⟩;have HV2:Hid (RS Wb V2 g a' k ca zs (some k)/\W9.grownBy V2 (some g)):=⟨H2.out.1,grown2 HG1.out H2.out.2⟩;have f0:V2.cell? ⟨D,0,none⟩=some (.slice tn.a tn.n tn.c):=(HQD.out V2 HV2.out.2).box.1;have f1:V2.cell? ⟨D,1,none⟩=some (.slice su.a su.n su.c):=(HQD.out V2 HV2.out.2).box.2.1;have f2:V2.cell? ⟨D,2,none⟩=some (.slice sx.a sx.n sx.c):=(HQD.out V2 HV2.out.2).box.2.2.1;have f3:V2.cell? ⟨D,3,none⟩=some (.slice a8 n8 c8):=(HQD.out V2 HV2.out.2).box.2.2.2.1;have fr0:V2.cell? ⟨b+1,0,none⟩=some (.slice none 0 0):=(HRB.out V2 H2.out.1.kp).box.1;have fz0:=(HRB.out V2 H2.out.1.kp).fz 0;have fr1:V2.cell? ⟨b+1,1,none⟩=some (.slice none 0 0):=(HRB.out V2 H2.out.1.kp).box.2.1;have fz1:=(HRB.out V2 H2.out.1.kp).fz 1;have fr2:V2.cell? ⟨b+1,2,none⟩=some (.slice none 0 0):=(HRB.out V2 H2.out.1.kp).box.2.2.1;have fz2:=(HRB.out V2 H2.out.1.kp).fz 2;have fr3:V2.cell? ⟨b+1,3,none⟩=some (.slice none 0 0):=(HRB.out V2 H2.out.1.kp).box.2.2.2.1;have fz3:=(HRB.out V2 H2.out.1.kp).fz 3;have fl:b+1<V2.heap.size:=(HRB.out V2 H2.out.1.kp).lt))
     all_goals
      go_wp2_with fail
      have HX:Hid (DBlk ((((V2.setCell ⟨b+1,0,none⟩ (.slice tn.a tn.n tn.c)).setCell ⟨b+1,1,none⟩ (.slice su.a su.n su.c)).setCell ⟨b+1,2,none⟩ (.slice sx.a sx.n sx.c)).setCell ⟨b+1,3,none⟩ (.slice a8 n8 c8)) (b+1) ⟨tn,su,sx,⟨a8,n8,c8⟩⟩/\DOwn w.heap.size ((((V2.setCell ⟨b+1,0,none⟩ (.slice tn.a tn.n tn.c)).setCell ⟨b+1,1,none⟩ (.slice su.a su.n su.c)).setCell ⟨b+1,2,none⟩ (.slice sx.a sx.n sx.c)).setCell ⟨b+1,3,none⟩ (.slice a8 n8 c8)) ⟨tn,su,sx,⟨a8,n8,c8⟩⟩ d/\Below w.heap.size w ((((V2.setCell ⟨b+1,0,none⟩ (.slice tn.a tn.n tn.c)).setCell ⟨b+1,1,none⟩ (.slice su.a su.n su.c)).setCell ⟨b+1,2,none⟩ (.slice sx.a sx.n sx.c)).setCell ⟨b+1,3,none⟩ (.slice a8 n8 c8))):=(HQ.out.rd HV2.out.1 HV2.out.2).ret (HRB.out V2 HV2.out.1.kp) HBB.out.2.2.2.2.2 (by have:=Hb.out;omega) (HBW.out V2 HV2.out.1.kp)
      generalize ((((V2.setCell ⟨b+1,0,none⟩ (.slice tn.a tn.n tn.c)).setCell ⟨b+1,1,none⟩ (.slice su.a su.n su.c)).setCell ⟨b+1,2,none⟩ (.slice sx.a sx.n sx.c)).setCell ⟨b+1,3,none⟩ (.slice a8 n8 c8))=W99 at*
      have k0:=HX.out.1.box.1
      have k1:=HX.out.1.box.2.1
      have k2:=HX.out.1.box.2.2.1
      have k3:=HX.out.1.box.2.2.2.1
      simp only at k0 k1 k2 k3
      exact bodyPost_ret (v:=.tuple #[.agg #[.slice tn.a tn.n tn.c,.slice su.a su.n su.c,.slice sx.a sx.n sx.c,.slice a8 n8 c8],.bool true]) (by simp[results,Tryz.results171,go_sem,k0,k1,k2,k3]) rfl ⟨⟨tn,su,sx,⟨a8,n8,c8⟩⟩,by simp,HX.out.2.1,HX.out.2.2⟩
    ·obtain ⟨m,hm2⟩:∃m:Nat,len=k+m+1:=⟨len - k - 1,by omega⟩
     have hz:lft len (some k)=(m:Int)+1:=by
      show (len:Int) - (k:Int)=_
      omega
     rw[hz] at KLs
     clear hz hm2
     have hm0:¬ ((m:Int)+1=0):=by omega
     have hm1:((m:Int)+1 == 0)=false:=by simpa using hm0
     have K1:Hid (Calls Tryz.prog 184 #[.pointer (some ⟨g,0,none⟩)] W9.drew fun e w'=>e=.returned (.int .i64 ((m:Int)+1))/\Hid (RS Wb w' g a' len ca zs (some k)/\W9.drew.grownBy w' (some g))):=KLs
     clear KL KB KT KLs
     go_wp2_with fail
     first
      |(go_region_with (first
      |(go_at_call 184;refine K1.out.mono ?_;rintro e V2 ⟨rfl,HV2⟩;have HV3:Hid (W9.grownBy V2 (some g)):=grown2 (below_grown (Below.refl _ _).drew) HV2.out.2;have e0:V2.cell? ⟨D,0,none⟩=some (.slice tn.a tn.n tn.c):=(HQD.out V2 HV3.out).box.1;have e1:V2.cell? ⟨D,1,none⟩=some (.slice su.a su.n su.c):=(HQD.out V2 HV3.out).box.2.1;have e2:V2.cell? ⟨D,2,none⟩=some (.slice sx.a sx.n sx.c):=(HQD.out V2 HV3.out).box.2.2.1;have e3:V2.cell? ⟨D,3,none⟩=some (.slice a8 n8 c8):=(HQD.out V2 HV3.out).box.2.2.2.1;have er0:V2.cell? ⟨b+1,0,none⟩=some (.slice none 0 0):=(HRB.out V2 HV2.out.1.kp).box.1;have ez0:=(HRB.out V2 HV2.out.1.kp).fz 0;have er1:V2.cell? ⟨b+1,1,none⟩=some (.slice none 0 0):=(HRB.out V2 HV2.out.1.kp).box.2.1;have ez1:=(HRB.out V2 HV2.out.1.kp).fz 1;have er2:V2.cell? ⟨b+1,2,none⟩=some (.slice none 0 0):=(HRB.out V2 HV2.out.1.kp).box.2.2.1;have ez2:=(HRB.out V2 HV2.out.1.kp).fz 2;have er3:V2.cell? ⟨b+1,3,none⟩=some (.slice none 0 0):=(HRB.out V2 HV2.out.1.kp).box.2.2.2.1;have ez3:=(HRB.out V2 HV2.out.1.kp).fz 3;have el:b+1<V2.heap.size:=(HRB.out V2 HV2.out.1.kp).lt)))
      |fail
     all_goals
      go_wp2_with fail
      have HX:Hid (DBlk ((((V2.setCell ⟨b+1,0,none⟩ (.slice tn.a tn.n tn.c)).setCell ⟨b+1,1,none⟩ (.slice su.a su.n su.c)).setCell ⟨b+1,2,none⟩ (.slice sx.a sx.n sx.c)).setCell ⟨b+1,3,none⟩ (.slice a8 n8 c8)) (b+1) ⟨tn,su,sx,⟨a8,n8,c8⟩⟩/\DOwn w.heap.size ((((V2.setCell ⟨b+1,0,none⟩ (.slice tn.a tn.n tn.c)).setCell ⟨b+1,1,none⟩ (.slice su.a su.n su.c)).setCell ⟨b+1,2,none⟩ (.slice sx.a sx.n sx.c)).setCell ⟨b+1,3,none⟩ (.slice a8 n8 c8)) ⟨tn,su,sx,⟨a8,n8,c8⟩⟩ d/\Below w.heap.size w ((((V2.setCell ⟨b+1,0,none⟩ (.slice tn.a tn.n tn.c)).setCell ⟨b+1,1,none⟩ (.slice su.a su.n su.c)).setCell ⟨b+1,2,none⟩ (.slice sx.a sx.n sx.c)).setCell ⟨b+1,3,none⟩ (.slice a8 n8 c8))):=(HQ.out.rd HV2.out.1 HV3.out).ret (HRB.out V2 HV2.out.1.kp) HBB.out.2.2.2.2.2 (by have:=Hb.out;omega) (HBW.out V2 HV2.out.1.kp)
      generalize ((((V2.setCell ⟨b+1,0,none⟩ (.slice tn.a tn.n tn.c)).setCell ⟨b+1,1,none⟩ (.slice su.a su.n su.c)).setCell ⟨b+1,2,none⟩ (.slice sx.a sx.n sx.c)).setCell ⟨b+1,3,none⟩ (.slice a8 n8 c8))=W99 at*
      have k0:=HX.out.1.box.1
      have k1:=HX.out.1.box.2.1
      have k2:=HX.out.1.box.2.2.1
      have k3:=HX.out.1.box.2.2.2.1
      simp only at k0 k1 k2 k3
      exact bodyPost_ret (v:=.tuple #[.agg #[.slice tn.a tn.n tn.c,.slice su.a su.n su.c,.slice sx.a sx.n sx.c,.slice a8 n8 c8],.bool false]) (by simp[results,Tryz.results171,go_sem,k0,k1,k2,k3]) rfl ⟨⟨tn,su,sx,⟨a8,n8,c8⟩⟩,by simp,HX.out.2.1,HX.out.2.2⟩
end Go.Proofs.YtjkljpdolhglcaaGreatDoor
