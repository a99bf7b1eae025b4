/- Texts laid together, in parts: Base Own Str Row Tl Tm Xa Xd Xe Shelf Lz Byt Bld. -/
import Derived.WalkKit
import Derived.ProofKit
import Derived.Below
import Derived.Laws.BitsAllLaws
import Derived.Test.YtjkljpdolhglcaaGreatDoorRows
import Derived.WalkSpells
import Derived.OwnWalk
import Derived.Laws.CopyOwn
import Derived.Laws.IdiomStrings
import Derived.Laws.AppendOwn
import Derived.Deep.AppendSrc
import Derived.Deep.QuietTactic
import Derived.BigQuiet
import Derived.Deep.RegionHeld3
import Derived.Lib.ItoaNum
import Derived.Lib.Split
import Derived.Lib.ParseIntB
import Derived.Lib.Join
import Derived.Shelf.Small.Strs
import Derived.Shelf.Small.Wraps
import Derived.Shelf.Strconv.Itoa1
import Derived.Shelf.LaysM
import Derived.Shelf.Strconv.Itoa2
import Derived.Shelf.Strconv.Itoa3
import Derived.Shelf.Strconv.Clone
import Derived.Shelf.LaysC
import Derived.Shelf.Strconv.ToError
import Derived.Shelf.Strconv.Lower
import Derived.Shelf.Strconv.ToErrorRange
import Derived.Shelf.Strconv.ErrVarAll
import Derived.Shelf.Pu.ParseUintPublic10
import Derived.Shelf.Pu.ErrVarParseUint
import Derived.Shelf.Strings.Search3
import Derived.Shelf.Strings.Cut
import Derived.Shelf.Strings.Count
import Derived.Shelf.Strings.Prefix
import Derived.Shelf.Strings.Split
import Derived.Shelf.Strings.Fields
import Derived.Test.YtjkljpdolhglcaaGreatDoorProg
import Derived.Lib.SmallJoins
import Derived.Lib.AppendIntMem
import Derived.Lib.AtoiAllMem
import Derived.BigCall
import Derived.BigGuard
import Derived.Lib.Builder
import Derived.Lib.UnsafeStr
set_option maxRecDepth 100000
set_option maxHeartbeats 8000000
set_option linter.unusedVariables false
set_option linter.unusedSimpArgs false
namespace Go.Proofs.YtjkljpdolhglcaaGreatDoor
open Go.ChangeShapes Go.WideShapes Go.ChangeAt Go.RowKit
def Rd(w:World)(a:Option Addr)(zs:List Int):Prop:=
 (zs=[]∨∃b o,a=some ⟨b,o,none⟩/\b<w.heap.size/\∀i,i<zs.length->w.cell? ⟨b,o+i,none⟩=some (.int .u8 (zs.getD i 0)))/\∀z∈zs,0<=z/\z<=255
theorem Rd.bd{w:World}{a:Option Addr}{zs:List Int}(h:Rd w a zs)(i:Nat):0<=zs.getD i 0/\zs.getD i 0<=255:=by
 by_cases hi:i<zs.length
 ·have:=h.2 (zs.getD i 0) (by rw[List.getD_eq_getElem?_getD,List.getElem?_eq_getElem hi];simp)
  exact this
 ·rw[List.getD_eq_getElem?_getD,List.getElem?_eq_none (by omega)];simp
theorem Rd.below{w w':World}{a:Option Addr}{zs:List Int}(h:Rd w a zs)(hb:Below w.heap.size w w'):Rd w' a zs:=by
 refine ⟨?_,h.2⟩
 rcases h.1 with h1|⟨b,o,rfl,h1,h2⟩
 ·exact .inl h1
 ·refine .inr ⟨b,o,rfl,Nat.lt_of_lt_of_le h1 hb.size,fun i hi=>?_⟩
  rw[<- h2 i hi]
  exact hb.cell (p:=⟨b,o+i,none⟩) h1
theorem Rd.cut{w:World}{a:Option Addr}{zs:List Int}(h:Rd w a zs)(at_ n:Nat)(hn:at_+n<=zs.length){a':Option Addr}
  (ha:0<n->∀b o,a=some ⟨b,o,none⟩->a'=some ⟨b,o+at_,none⟩):Rd w a' ((zs.drop at_).take n):=by
 refine ⟨?_,fun z hz=>h.2 z (List.mem_of_mem_drop (List.mem_of_mem_take hz))⟩
 by_cases h0:n=0
 ·left;subst h0;simp
 ·rcases h.1 with h1|⟨b,o,rfl,h1,h2⟩
  ·subst h1;simp at hn;omega
  ·refine .inr ⟨b,o+at_,ha (by omega) b o rfl,h1,fun i hi=>?_⟩
   have hi':i<n:=by simp at hi;omega
   have:=h2 (at_+i) (by omega)
   rw[Nat.add_assoc,this]
   congr 2
   simp[List.getD_eq_getElem?_getD,hi',List.getElem?_drop]
def val(zs:List Int):Int:=zs.foldl (fun n c=>n*256+c) 0
theorem val_snoc(zs:List Int)(c:Int):val (zs++[c])=val zs*256+c:=by
 simp[val,List.foldl_append]
theorem val_bd(zs:List Int)(h:∀z∈zs,0<=z/\z<=255):0<=val zs/\val zs<256 ^ zs.length:=by
 have:∀(l:List Int) (n:Int) (k:Nat),(∀z∈l,0<=z/\z<=255)->0<=n->n<256 ^ k->0<=l.foldl (fun n c=>n*256+c) n/\l.foldl (fun n c=>n*256+c) n<256 ^ (k+l.length):=by
  intro l;induction l with
  |nil=>intro n k _ h1 h2;exact ⟨h1,h2⟩
  |cons c l ih=>
   intro n k hl h1 h2
   have hc:=hl c (by simp)
   have:=ih (n*256+c) (k+1) (fun z hz=>hl z (by simp[hz])) (by omega) (by rw[Int.pow_succ];omega)
   simpa [Nat.add_assoc,Nat.add_comm 1] using this
 have t:=this zs 0 0 h (by omega) (by simp)
 rw[Nat.zero_add] at t
 exact t
theorem take_snoc(zs:List Int)(k:Nat)(h:k<zs.length):zs.take (k+1)=zs.take k++[zs.getD k 0]:=by
 rw[List.take_succ_eq_append_getElem h];simp[List.getD_eq_getElem?_getD,List.getElem?_eq_getElem h]
theorem val_small(zs:List Int)(h:∀z∈zs,0<=z/\z<=255)(k:Nat)(hk:k<=3):0<=val (zs.take k)/\val (zs.take k)<16777216:=by
 have hb:=val_bd (zs.take k) (fun z hz=>h z (List.mem_of_mem_take hz))
 have hp:(256:Int) ^ (zs.take k).length<=256 ^ 3:=by
  have hl:(zs.take k).length<=3:=by simp;omega
  generalize (zs.take k).length=m at hl
  have:m=0∨m=1∨m=2∨m=3:=by omega
  rcases this with rfl|rfl|rfl|rfl <;> decide
 have h3:(256:Int) ^ 3=16777216:=by decide
 omega
theorem val_small4(zs:List Int)(h:∀z∈zs,0<=z/\z<=255)(hk:zs.length<=4):0<=val zs/\val zs<4294967296:=by
 have hb:=val_bd zs h
 have hp:(256:Int) ^ zs.length<=256 ^ 4:=by
  generalize zs.length=m at hk
  have:m=0∨m=1∨m=2∨m=3∨m=4:=by omega
  rcases this with rfl|rfl|rfl|rfl|rfl <;> decide
 have h3:(256:Int) ^ 4=4294967296:=by decide
 omega
theorem u32_join(v c:Int)(h1:0<=v)(h2:v<16777216)(h3:0<=c)(h4:c<=255) :
  bits .or .u32 (v*256) (c % 4294967296)=v*256+c:=by
 have e2:c % 4294967296=c:=Int.emod_eq_of_lt (by omega) (by omega)
 rw[e2,u32_or _ _ (by omega) (by omega) (by omega) (by omega)]
 have:=nat_join 8 (v*256).toNat c.toNat (by omega) (by omega)
 rw[this];omega
def Blk(w:World)(g:Nat)(zs:List Int):Prop:=
 w.heap[g]?=some (.cells (zs.map (Value.int .u8)).toArray 5 (0,0))/\∀z∈zs,0<=z/\z<=255
theorem Blk.lt{w:World}{g:Nat}{zs:List Int}(h:Blk w g zs):g<w.heap.size:=by
 have:=h.1
 by_cases hg:g<w.heap.size
 ·exact hg
 ·rw[Array.getElem?_eq_none (by omega)] at this;cases this
theorem Blk.same{w w':World}{g:Nat}{zs:List Int}(h:Blk w g zs)(hb:w'.heap[g]?=w.heap[g]?):Blk w' g zs:=⟨hb.trans h.1,h.2⟩
theorem Blk.below{w w':World}{g:Nat}{zs:List Int}(h:Blk w g zs)(hb:Below w.heap.size w w'):Blk w' g zs:=h.same (hb.block g h.lt)
theorem Blk.cell{w:World}{g:Nat}{zs:List Int}(h:Blk w g zs)(i:Nat)(hi:i<zs.length):w.cell? ⟨g,i,none⟩=some (.int .u8 (zs.getD i 0)):=by
 simp[World.cell?,h.1,hi]
theorem Blk.rd{w:World}{g:Nat}{zs:List Int}(h:Blk w g zs)(n:Nat):Rd w (some ⟨g,0,none⟩) (zs.take n):=by
 refine ⟨.inr ⟨g,0,rfl,h.lt,fun i hi=>?_⟩,fun z hz=>h.2 z (List.mem_of_mem_take hz)⟩
 rw[Nat.zero_add,h.cell i (by simp at hi;omega)]
 have:i<n:=by simp at hi;omega
 simp[List.getD_eq_getElem?_getD,this]
theorem Rd.drew{w:World}{a:Option Addr}{zs:List Int}(h:Rd w a zs):Rd w.drew a zs:=h.below (Below.refl _ _).drew
theorem Tryz.info5:(Tryz.prog.info? 5).map (fun i=>(i.zero,i.size,i.bytes))=some (some (.int .u8 0),1,1):=by kernel_rfl
def Own(B:Nat)(w:World)(v:Value)(n:Nat)(zs:List Int):Prop:=
 (v=.slice none 0 0/\n=0/\zs=[]) ∨
 ∃g,v=.slice (some ⟨g,0,none⟩) n zs.length/\B<=g/\Blk w g zs/\n<=zs.length/\zs.length<=maxLen
theorem zeros_eq(k:Nat):Builtin.zeroCells (Value.int .u8 0).cells k=((List.replicate k (0:Int)).map (Value.int .u8)).toArray:=by
 apply Array.ext
 ·simp[Builtin.zeroCells,Value.cells]
 ·intro i h1 h2
  simp[Builtin.zeroCells,Value.cells]
  have:i % 1=0:=by omega
  simp[this]
theorem made_eq(k:Nat):madeCells (Value.int .u8 0).cells (k*1)=((List.replicate k (0:Int)).map (Value.int .u8)).toArray:=by
 apply Array.ext
 ·simp[madeCells,Value.cells]
 ·intro i h1 h2
  simp[madeCells,Value.cells]
  have:i % 1=0:=by omega
  simp[this]
theorem rd_cells{w:World}{x:Addr}{zs:List Int}(h:Rd w (some x) zs):∀j u,(zs.map (Value.int .u8))[j]?=some u->w.cell? (x.add j)=some u:=by
 intro j u hu
 have hj:j<zs.length:=by simpa using (List.getElem?_eq_some_iff.1 hu).1
 rcases h.1 with h1|⟨b,o,e,_,h2⟩
 ·subst h1;simp at hj
 ·cases e
  rw[Addr.add_lit,h2 j hj,<- hu]
  simp[hj]
theorem run_append_blk(w:World)(B:Nat)(ty:TypeId)(v:Value)(n:Nat)(zs:List Int)(hown:Own B w v n zs)
  (ao:Option Addr) (m c:Nat) (news:List Int) (hr:Rd w ao news) (hl:news.length=m) (hc:ao=none->c=0) (hb:n+m<=140737488355328) (hB:B<=w.heap.size) :
  ∃v' w' zs',(Builtin.append_ #[46,46] ty #[v,.slice ao m c]).run Tryz.prog w=.ok v' w'/\Own B w' v' (n+m) zs'/\zs'.take (n+m)=zs.take n++news/\w.grownBy w' v.ownBlock:=by
 obtain ⟨i,hi,hz0,hz1,hz2⟩:=info_parts Tryz.info5
 cases ao with
 |none=>
  have hnews:news=[]:=by
   rcases hr.1 with h1|⟨b,o,h,_⟩
   ·exact h1
   ·cases h
  subst hnews;subst hl
  rw[hc rfl]
  refine ⟨v,w,zs,?_,hown,by simp,World.grownBy.refl _ _⟩
  rcases hown with ⟨rfl,rfl,rfl⟩|⟨g,rfl,hBg,hblk,hn,hm⟩
  ·simp[Builtin.append_,run_underlying Tryz.underlying46,sizeOf,typeInfo,hi,Builtin.lenOf,Builtin.firstCells]
  ·simp[Builtin.append_,run_underlying Tryz.underlying46,sizeOf,typeInfo,hi,Builtin.lenOf,Builtin.firstCells,hn,storeCells]
 |some a=>
  have hcs:=rd_cells hr
  have hml:n+m<=maxLen:=by simp only[maxLen];omega
  have hlm:(news.map (Value.int .u8)).length=m*i.size:=by rw[hz1];simp[hl]
  have grown:∀(old:Nat),old<n+m->∀(row:Option Nat),(n=0∨n<=zs.length)->
    ∃zs':List Int,(.cells (((zs.take n).map (Value.int .u8)).toArray++(news.map (Value.int .u8)).toArray++Builtin.zeroCells (Value.int .u8 0).cells (grownCap w (n+m) old 5 - (n+m))) 5:Obj)=.cells (zs'.map (Value.int .u8)).toArray 5 (0,0)/\
    zs'.length=grownCap w (n+m) old 5/\zs'.take (n+m)=zs.take n++news/\(∀z∈zs',0<=z/\z<=255):=by
   intro old ho row hn
   have hge:=grownCap_ge w (n+m) old 5
   have hzb:∀z∈zs,0<=z/\z<=255:=by
    rcases hown with ⟨_,_,rfl⟩|⟨g,_,_,hblk,_⟩
    ·intro z hz;cases hz
    ·exact hblk.2
   have htl:(zs.take n).length=n:=by
    rcases hn with rfl|hn
    ·simp
    ·simp;omega
   refine ⟨zs.take n++news++List.replicate (grownCap w (n+m) old 5 - (n+m)) 0,?_,?_,?_,?_⟩
   ·rw[zeros_eq];simp
   ·simp only[List.length_append,htl,hl,List.length_replicate];omega
   ·rw[List.take_append_of_le_length (by simp only[List.length_append,htl,hl];omega)]
    exact List.take_of_length_le (by simp only[List.length_append,htl,hl];omega)
   ·intro z hz
    simp only[List.mem_append,List.mem_replicate] at hz
    rcases hz with (hz|hz)|⟨_,rfl⟩
    ·exact hzb z (List.mem_of_mem_take hz)
    ·exact hr.2 z hz
    ·omega
  have fresh:∀(old:Nat),old<n+m->∀zs':List Int,zs'.length=grownCap w (n+m) old 5->(∀z∈zs',0<=z/\z<=255)->
    Own B (w.drew.alloc (.cells (zs'.map (Value.int .u8)).toArray 5 (0,0))) (.slice (some ⟨w.heap.size,0,none⟩) (n+m) (grownCap w (n+m) old 5)) (n+m) zs':=by
   intro old ho zs' hzl hzb
   refine .inr ⟨w.heap.size,by rw[hzl],hB,⟨heap_alloc_new w.drew _,hzb⟩,?_,?_⟩
   ·rw[hzl];exact grownCap_ge w (n+m) old 5
   ·rw[hzl];exact grownCap_le_maxLen w (n+m) old 5 hml
  rcases hown with ⟨rfl,rfl,rfl⟩|⟨g,rfl,hBg,hblk,hn,hm⟩
  ·by_cases hm0:m=0
   ·subst hm0
    have hnews:news=[]:=List.eq_nil_of_length_eq_zero hl
    subst hnews
    refine ⟨.slice none 0 0,w,[],?_,.inl ⟨rfl,rfl,rfl⟩,by simp,World.grownBy.refl _ _⟩
    simp[Builtin.append_,run_underlying Tryz.underlying46,sizeOf,typeInfo,hi,Builtin.lenOf,Builtin.firstCells,loadCells,loadCellsFrom]
   ·have hr':=run_append_nil (P:=Tryz.prog) w 46 ty 5 i _ Tryz.underlying46 hi hz0 a m c (news.map (Value.int .u8)) hlm hcs (by omega) (by omega) (by rw[hz2];omega)
    obtain ⟨zs',e1,e2,e3,e4⟩:=grown 0 (by omega) none (.inl rfl)
    have hf:=fresh 0 (by omega) zs' e2 e4
    simp only[Nat.zero_add,List.take_nil,List.map_nil,List.nil_append,Array.empty_append,List.take_zero] at e1 e2 e3 hf ⊢
    rw[e1] at hr'
    exact ⟨_,_,zs',hr',hf,e3,⟨rfl,rfl,rfl,by simp,fun k hk _=>Below.heap_alloc w.drew _ k hk⟩⟩
  ·by_cases hroom:n+m<=zs.length
   ·have hr':=run_append_room (P:=Tryz.prog) w 46 ty 5 i Tryz.underlying46 hi g n zs.length _ hblk.1 a m c (news.map (Value.int .u8)) hlm hcs (ints_oneCell _ _) hroom (by rw[hz1];simp[hl];omega)
    have e:(((zs.map (Value.int .u8)).toArray.toList.take (n*i.size))++news.map (Value.int .u8)++(zs.map (Value.int .u8)).toArray.toList.drop (n*i.size+(news.map (Value.int .u8)).length)).toArray=((zs.take n++news++zs.drop (n+m)).map (Value.int .u8)).toArray:=by
     rw[hz1];simp[hl]
    rw[e] at hr'
    have hlen:(zs.take n++news++zs.drop (n+m)).length=zs.length:=by simp[hl];omega
    refine ⟨_,_,zs.take n++news++zs.drop (n+m),hr',.inr ⟨g,by rw[hlen],hBg,⟨setRow_heap w g _ _ 5 _ hblk.1,?_⟩,by rw[hlen];exact hroom,by rw[hlen];exact hm⟩,?_,
     ⟨rfl,rfl,rfl,by simp,fun k _ hk=>setRow_other w g k _ (fun e=>hk (by simp[Value.ownBlock,e]))⟩⟩
    ·intro z hz
     simp only[List.mem_append] at hz
     rcases hz with (hz|hz)|hz
     ·exact hblk.2 z (List.mem_of_mem_take hz)
     ·exact hr.2 z hz
     ·exact hblk.2 z (List.mem_of_mem_drop hz)
    ·rw[List.take_append_of_le_length (by simp[hl];omega)]
     exact List.take_of_length_le (by simp[hl];omega)
   ·have holds:∀j u,((zs.take n).map (Value.int .u8))[j]?=some u->w.cell? ((⟨g,0,none⟩:Addr).add j)=some u:=rd_cells (hblk.rd n)
    have hr':=run_append_grow (P:=Tryz.prog) w 46 ty 5 i _ Tryz.underlying46 hi hz0 ⟨g,0,none⟩ n zs.length ((zs.take n).map (Value.int .u8)) (by rw[hz1];simp;omega) holds a m c (news.map (Value.int .u8)) hlm hcs (by omega) (by simp only[maxLen] at hml;omega) (growslice_fits (by omega) (by rw[hz2];omega))
    obtain ⟨zs',e1,e2,e3,e4⟩:=grown zs.length (by omega) none (.inr hn)
    have hf:=fresh zs.length (by omega) zs' e2 e4
    rw[e1] at hr'
    exact ⟨_,_,zs',hr',hf,e3,⟨rfl,rfl,rfl,by simp,fun k hk _=>Below.heap_alloc w.drew _ k hk⟩⟩
theorem wpList_append_blk(w:World){ops:Array Oper}{rest:List Oper}{o:Oper}{a:Act}{Q:Exit->Act->World->Prop}(hgd:o.guard=none)(s x:Operand)
  (ho:o.op=.call { callee:=.builtin .append,args:=#[s,x],argTypes:=#[46,46] }) (B:Nat) (v:Value) (n:Nat) (zs:List Int) (hs:a.eval s=v) (hown:Own B w v n zs)
  (ao:Option Addr) (m c:Nat) (news:List Int) (hx:a.eval x=.slice ao m c) (hr:Rd w ao news) (hl:news.length=m) (hc:ao=none->c=0) (hb:n+m<=140737488355328) (hB:B<=w.heap.size)
  (h:∀v' w' zs',Hid (Own B w' v' (n+m) zs')->Hid (zs'.take (n+m)=zs.take n++news)->w.grownBy w' v.ownBlock->wpList Tryz.prog ops Q rest (a.put o.dst v') w'):wpList Tryz.prog ops Q (o::rest) a w:=by
 refine wpList_plain hgd fun K hK=>?_
 obtain ⟨v',w',zs',hrun,h2,h3,h4⟩:=run_append_blk w B o.type v n zs hown ao m c news hr hl hc hb hB
 unfold Oper.wp execOp
 simp only[ho,resolve,invoke,builtin,Sem.run_bind,Sem.run_pure,Result.andThen_ok,List.map_toArray,List.map_cons,List.map_nil,hs,hx,hrun]
 exact hK _ _ (h v' w' zs' h2 h3 h4)
theorem wpList_make_blk(w:World){ops:Array Oper}{rest:List Oper}{o:Oper}{a:Act}{Q:Exit->Act->World->Prop}(hgd:o.guard=none)(s x:Operand)
  (ho:o.op=.makeSlice 46 s x) (l n:Nat) (L C:Int) (hs:a.eval s=.int .i64 L) (hx:a.eval x=.int .i64 C) (hL:L=(l:Int)) (hC:C=(n:Int)) (hln:l<=n) (hn:n<=281474976710656)
  (h:wpList Tryz.prog ops Q rest (a.put o.dst (.slice (some ⟨w.heap.size,0,none⟩) l n)) (w.alloc (.cells ((List.replicate n (0:Int)).map (Value.int .u8)).toArray 5))):wpList Tryz.prog ops Q (o::rest) a w:=by
 refine wpList_plain hgd fun K hK=>?_
 obtain ⟨i,hi,hz0,hz1,hz2⟩:=info_parts Tryz.info5
 have hrun:=run_make (P:=Tryz.prog) w 46 5 i _ Tryz.underlying46 hi hz0 .i64 .i64 (l:Int) (n:Int) (by omega) (by omega) (by rw[hz2];omega) (by omega)
 rw[hz1] at hrun
 simp only[Int.toNat_natCast,made_eq] at hrun
 subst hL
 subst hC
 unfold Oper.wp
 simp only[execOp,ho,hs,hx,Sem.run_bind,hrun,Result.andThen]
 exact hK _ _ h
def txt(zs:List Int):List UInt8:=zs.map fun z=>UInt8.ofNat z.toNat
theorem txt_len(zs:List Int):(txt zs).length=zs.length:=by simp[txt]
theorem conv_rd(a:Option Addr)(n c:Nat)(zs:List Int)(w:World)(hr:Rd w a zs)(hl:zs.length=n) :
  (convert 46 9 (.slice a n c)).run Tryz.prog w=.ok (.string ⟨(txt zs).toArray⟩) w:=by
 cases a with
 |none=>
  rcases hr.1 with h1|⟨b,o,h,_⟩
  ·subst h1;subst hl
   rw[run_convert_bytes_string w 46 9 5 none _ c Tryz.underlying46 Tryz.underlying5 Tryz.underlying9]
   simp[Conv.bytesToString,txt]
   rfl
  ·cases h
 |some x=>
  have:=run_convert_bytes_back (P:=Tryz.prog) w 46 9 5 x c (txt zs) Tryz.underlying46 Tryz.underlying5 Tryz.underlying9 (fun j hj=>by
   rcases hr.1 with h1|⟨b,o,h,_,h2⟩
   ·subst h1;simp[txt] at hj
   ·cases h
    have hj':j<zs.length:=by simpa [txt] using hj
    have e:=h2 j hj'
    have hz:=hr.2 (zs[j]) (List.getElem_mem hj')
    rw[Addr.add_lit,e]
    simp[txt,hj']
    omega)
  rw[txt_len,hl] at this
  exact this
def OwnA(B:Nat)(w:World)(ao:Option Addr)(n:Nat)(zs:List Int):Prop:=
 (ao=none/\n=0/\zs=[])∨∃g,ao=some ⟨g,0,none⟩/\B<=g/\Blk w g zs/\n<=zs.length/\zs.length<=maxLen
def blk(ao:Option Addr):Option Nat:=ao.map (·.block)
theorem Own.addr{B:Nat}{w:World}{v:Value}{n:Nat}{zs:List Int}(h:Own B w v n zs):∃ao,v=.slice ao n zs.length/\OwnA B w ao n zs:=by
 rcases h with ⟨rfl,rfl,rfl⟩|⟨g,rfl,hB,hb,hn,hm⟩
 ·exact ⟨none,rfl,.inl ⟨rfl,rfl,rfl⟩⟩
 ·exact ⟨some ⟨g,0,none⟩,rfl,.inr ⟨g,rfl,hB,hb,hn,hm⟩⟩
theorem OwnA.keep{B:Nat}{w w':World}{ao:Option Addr}{n:Nat}{zs:List Int}(h:OwnA B w ao n zs)(hb:∀g,blk ao=some g->g<w.heap.size->w'.heap[g]?=w.heap[g]?):OwnA B w' ao n zs:=by
 rcases h with h|⟨g,rfl,h2,h3,h4⟩
 ·exact .inl h
 ·exact .inr ⟨g,rfl,h2,h3.same (hb g rfl h3.lt),h4⟩
theorem OwnA.lt{B:Nat}{w:World}{ao:Option Addr}{n:Nat}{zs:List Int}(h:OwnA B w ao n zs):∀g,blk ao=some g->B<=g/\g<w.heap.size:=by
 intro g hg
 rcases h with ⟨rfl,_⟩|⟨g',rfl,h2,h3,_⟩
 ·cases hg
 ·have:g'=g:=Option.some.inj hg
  subst this;exact ⟨h2,h3.lt⟩
theorem OwnA.rd{B:Nat}{w:World}{ao:Option Addr}{n:Nat}{zs:List Int}(h:OwnA B w ao n zs):Rd w ao zs:=by
 rcases h with ⟨rfl,_,rfl⟩|⟨g,rfl,h2,h3,_⟩
 ·exact ⟨.inl rfl,by simp⟩
 ·have:=h3.rd zs.length
  rwa [List.take_of_length_le (Nat.le_refl _)] at this
theorem OwnA.rdTake{B:Nat}{w:World}{ao:Option Addr}{n:Nat}{zs:List Int}(h:OwnA B w ao n zs)(m:Nat):Rd w ao (zs.take m):=by
 rcases h with ⟨rfl,_,rfl⟩|⟨g,rfl,h2,h3,_⟩
 ·exact ⟨.inl (by simp),by simp⟩
 ·exact h3.rd m
theorem OwnA.nil{B:Nat}{w:World}{ao:Option Addr}{n:Nat}{zs:List Int}(h:OwnA B w ao n zs):ao=none->zs.length=0:=by
 rintro rfl
 rcases h with ⟨_,_,rfl⟩|⟨g,h,_⟩
 ·rfl
 ·cases h
theorem OwnA.le{B:Nat}{w:World}{ao:Option Addr}{n:Nat}{zs:List Int}(h:OwnA B w ao n zs):n<=zs.length/\zs.length<=maxLen:=by
 rcases h with ⟨_,rfl,rfl⟩|⟨g,_,_,_,h4,h5⟩
 ·exact ⟨Nat.le_refl _,Nat.zero_le _⟩
 ·exact ⟨h4,h5⟩
def nums(s:ByteArray):List Int:=s.data.toList.map fun b=>(b.toNat:Int)
theorem nums_len(s:ByteArray):(nums s).length=s.size:=by simp[nums]
theorem nums_at(s:ByteArray)(i:Nat)(h:i<s.size):(nums s).getD i 0=(s[i].toNat:Int):=by
 have h':i<s.data.toList.length:=by simpa using h
 simp[nums,List.getD_eq_getElem?_getD]
 rw[show s.data[i]?=some s[i] from Array.getElem?_eq_getElem h]
 rfl
theorem nums_bd(s:ByteArray)(i:Nat):0<=(nums s).getD i 0/\(nums s).getD i 0<=255:=by
 by_cases h:i<s.size
 ·rw[nums_at s i h];have:=s[i].toNat_lt;omega
 ·rw[List.getD_eq_getElem?_getD,List.getElem?_eq_none (by rw[nums_len];omega)];simp
theorem Own.below{B:Nat}{w w':World}{v:Value}{n:Nat}{zs:List Int}(h:Own B w v n zs)(hb:Below w.heap.size w w'):Own B w' v n zs:=by
 rcases h with h|⟨g,h1,h2,h3,h4⟩
 ·exact .inl h
 ·exact .inr ⟨g,h1,h2,h3.below hb,h4⟩
theorem Own.lt{B:Nat}{w:World}{v:Value}{n:Nat}{zs:List Int}(h:Own B w v n zs):∀g,v.ownBlock=some g->B<=g:=by
 intro g hg
 rcases h with ⟨rfl,_⟩|⟨g',rfl,h2,_⟩
 ·cases hg
 ·have:g'=g:=Option.some.inj hg
  omega
theorem new_rd(w:World)(z:Int)(hz:0<=z/\z<=255):Rd (w.alloc (.cells #[.int .u8 z] 5)) (some ⟨w.heap.size,0,none⟩) [z]:=by
 refine ⟨.inr ⟨w.heap.size,0,rfl,by simp,fun i hi=>?_⟩,by simpa using hz⟩
 have:i=0:=by simp at hi;omega
 subst this
 simp[go_sem]
theorem heap_set{w:World}{g:Nat}{cur:Array Value}{t:TypeId}{fr:Nat × Nat}(h:w.heap[g]?=some (.cells cur t fr))(i:Nat)(v:Value) :
  (w.setCell ⟨g,i,none⟩ v).heap[g]?=some (.cells (cur.setIfInBounds i v) t fr):=by
 have hg:g<w.heap.size:=(Array.getElem?_eq_some_iff.1 h).1
 have e:w.heap[g]=.cells cur t fr:=by
  rw[Array.getElem?_eq_getElem hg] at h;exact Option.some.inj h
 simp[World.setCell,hg,Array.getElem_modify,e]
def RdV(w:World)(a:Option Addr)(xs:List Value):Prop:=
 xs=[]∨∃b o,a=some ⟨b,o,none⟩/\b<w.heap.size/\∀i (h:i<xs.length),w.cell? ⟨b,o+i,none⟩=some xs[i]
theorem RdV.below{w w':World}{a:Option Addr}{xs:List Value}(h:RdV w a xs)(hb:Below w.heap.size w w'):RdV w' a xs:=by
 rcases h with h1|⟨b,o,rfl,h1,h2⟩
 ·exact .inl h1
 ·exact .inr ⟨b,o,rfl,Nat.lt_of_lt_of_le h1 hb.size,fun i hi=>(hb.cell (p:=⟨b,o+i,none⟩) h1).trans (h2 i hi)⟩
theorem RdV.cells{w:World}{a:Addr}{xs:List Value}(h:RdV w (some a) xs):∀j u,xs[j]?=some u->w.cell? (a.add j)=some u:=by
 intro j u hu
 obtain ⟨hj,e⟩:=List.getElem?_eq_some_iff.1 hu
 rcases h with h1|⟨b,o,e1,_,h2⟩
 ·subst h1;simp at hj
 ·cases e1
  rw[Addr.add_lit,h2 j hj,e]
def BlkV(w:World)(g:Nat)(t:TypeId)(xs:List Value):Prop:=w.heap[g]?=some (.cells xs.toArray t (0,0))
theorem BlkV.lt{w:World}{g:Nat}{t:TypeId}{xs:List Value}(h:BlkV w g t xs):g<w.heap.size:=(Array.getElem?_eq_some_iff.1 h).1
theorem BlkV.same{w w':World}{g:Nat}{t:TypeId}{xs:List Value}(h:BlkV w g t xs)(hb:w'.heap[g]?=w.heap[g]?):BlkV w' g t xs:=hb.trans h
theorem BlkV.below{w w':World}{g:Nat}{t:TypeId}{xs:List Value}(h:BlkV w g t xs)(hb:Below w.heap.size w w'):BlkV w' g t xs:=h.same (hb.block g h.lt)
theorem BlkV.cell{w:World}{g:Nat}{t:TypeId}{xs:List Value}(h:BlkV w g t xs)(i:Nat)(hi:i<xs.length):w.cell? ⟨g,i,none⟩=some xs[i]:=by
 have h':w.heap[g]?=_:=h
 simp[World.cell?,h',hi]
theorem BlkV.frozen{w:World}{g:Nat}{t:TypeId}{xs:List Value}(h:BlkV w g t xs)(i:Nat):w.frozen? ⟨g,i,none⟩=false:=by
 have h':w.heap[g]?=_:=h
 simp[World.frozen?,h']
theorem BlkV.rd{w:World}{g:Nat}{t:TypeId}{xs:List Value}(h:BlkV w g t xs)(n:Nat):RdV w (some ⟨g,0,none⟩) (xs.take n):=by
 refine .inr ⟨g,0,rfl,h.lt,fun i hi=>?_⟩
 have:i<xs.length:=by simp at hi;omega
 rw[Nat.zero_add,h.cell i this]
 simp
theorem BlkV.stored{w:World}{g:Nat}{t:TypeId}{xs:List Value}(h:BlkV w g t xs)(i:Nat)(x:Value):BlkV (w.setCell ⟨g,i,none⟩ x) g t (xs.set i x):=by
 have hg:=h.lt
 have h1:w.heap[g]?=_:=h
 have e:w.heap[g]=.cells xs.toArray t (0,0):=by
  rw[Array.getElem?_eq_getElem hg] at h1;exact Option.some.inj h1
 unfold BlkV
 simp[World.setCell,hg,Array.getElem_modify,e]
theorem BlkV.cellsSet:∀(vs:List Value) (o:Nat) {w:World} {g:Nat} {t:TypeId} {xs:List Value},BlkV w g t xs->o+vs.length<=xs.length->
  BlkV (w.setCells g o vs) g t (xs.take o++vs++xs.drop (o+vs.length))/\w.grownBy (w.setCells g o vs) (some g)
 |[],o,w,g,t,xs,h,_=>⟨by simpa [World.setCells] using h,World.grownBy.refl _ _⟩
 |v::r,o,w,g,t,xs,h,hl=>by
  have hl':o+1+r.length<=(xs.set o v).length:=by simp at hl ⊢;omega
  obtain ⟨h1,h2⟩:=BlkV.cellsSet r (o+1) (h.stored o v) hl'
  have e1:(xs.set o v).take (o+1)++r++(xs.set o v).drop (o+1+r.length)=xs.take o++(v::r)++xs.drop (o+(v::r).length):=by
   have ho:o<xs.length:=by simp at hl;omega
   have ht:(xs.set o v).take (o+1)=xs.take o++[v]:=by
    rw[List.take_succ_eq_append_getElem (by simpa using ho),List.take_set_of_le (Nat.le_refl _)]
    simp
   have hd:(xs.set o v).drop (o+1+r.length)=xs.drop (o+(v::r).length):=by
    rw[List.drop_set_of_lt (by omega)]
    congr 1
    simp;omega
   rw[ht,hd]
   simp
  rw[e1] at h1
  refine ⟨h1,?_⟩
  have h0:w.grownBy (w.setCell ⟨g,o,none⟩ v) (some g):=⟨rfl,rfl,rfl,by simp[World.setCell],fun k _ hk=>Below.heap_setCell _ _ _ _ (fun e=>hk (by simp[e]))⟩
  exact ⟨h2.os.trans h0.os,h2.tape.trans h0.tape,h2.output.trans h0.output,Nat.le_trans h0.size h2.size,fun k hk hne=>(h2.block k (Nat.lt_of_lt_of_le hk h0.size) hne).trans (h0.block k hk hne)⟩
def OwnV(B:Nat)(w:World)(t:TypeId)(v:Value)(n:Nat)(xs:List Value):Prop:=
 (v=.slice none 0 0/\n=0/\xs=[]) ∨
 ∃g,v=.slice (some ⟨g,0,none⟩) n xs.length/\B<=g/\BlkV w g t xs/\n<=xs.length/\xs.length<=maxLen
theorem OwnV.keep{B:Nat}{w w':World}{t:TypeId}{v:Value}{n:Nat}{xs:List Value}(h:OwnV B w t v n xs)(hb:∀g,v.ownBlock=some g->g<w.heap.size->w'.heap[g]?=w.heap[g]?):OwnV B w' t v n xs:=by
 rcases h with h|⟨g,rfl,h2,h3,h4⟩
 ·exact .inl h
 ·exact .inr ⟨g,rfl,h2,h3.same (hb g rfl h3.lt),h4⟩
theorem OwnV.below{B:Nat}{w w':World}{t:TypeId}{v:Value}{n:Nat}{xs:List Value}(h:OwnV B w t v n xs)(hb:Below w.heap.size w w'):OwnV B w' t v n xs:=h.keep fun g _ hg=>hb.block g hg
theorem OwnV.mono{B B':Nat}{w:World}{t:TypeId}{v:Value}{n:Nat}{xs:List Value}(h:OwnV B w t v n xs)(hB:B'<=B):OwnV B' w t v n xs:=by
 rcases h with h|⟨g,h1,h2,h3⟩
 ·exact .inl h
 ·exact .inr ⟨g,h1,Nat.le_trans hB h2,h3⟩
theorem OwnV.lt{B:Nat}{w:World}{t:TypeId}{v:Value}{n:Nat}{xs:List Value}(h:OwnV B w t v n xs):∀g,v.ownBlock=some g->B<=g:=by
 intro g hg
 rcases h with ⟨rfl,_⟩|⟨g',rfl,h2,_⟩
 ·cases hg
 ·have:g'=g:=Option.some.inj hg
  omega
theorem OwnV.shape{B:Nat}{w:World}{t:TypeId}{v:Value}{n:Nat}{xs:List Value}(h:OwnV B w t v n xs):∃ao,v=.slice ao n xs.length/\(ao=none->xs.length=0):=by
 rcases h with ⟨rfl,rfl,rfl⟩|⟨g,rfl,_⟩
 ·exact ⟨none,rfl,fun _=>rfl⟩
 ·exact ⟨_,rfl,fun h=>by cases h⟩
theorem OwnV.le{B:Nat}{w:World}{t:TypeId}{v:Value}{n:Nat}{xs:List Value}(h:OwnV B w t v n xs):n<=xs.length/\xs.length<=maxLen:=by
 rcases h with ⟨_,rfl,rfl⟩|⟨g,_,_,_,h4,h5⟩
 ·exact ⟨Nat.le_refl _,Nat.zero_le _⟩
 ·exact ⟨h4,h5⟩
theorem OwnV.rd{B:Nat}{w:World}{t:TypeId}{ao:Option Addr}{n c:Nat}{xs:List Value}(h:OwnV B w t (.slice ao n c) n xs)(m:Nat):RdV w ao (xs.take m):=by
 rcases h with ⟨_,_,rfl⟩|⟨g,e,_,h3,_⟩
 ·exact .inl (by simp)
 ·have:ao=some ⟨g,0,none⟩:=by injection e
  rw[this];exact h3.rd m
theorem OwnV.nil(B:Nat)(w:World)(t:TypeId):OwnV B w t (.slice none 0 0) 0 []:=.inl ⟨rfl,rfl,rfl⟩
theorem src_of{P:Program}{w:World}{tx e':TypeId}(hk:P.underlying tx=some (.slice e')){ao:Option Addr}{m c:Nat}{news:List Value}(hr:RdV w ao news)(hl:news.length=m)(h1:∀u∈news,u.oneCell'=true):Src P 1 tx (.slice ao m c) m news w:=by
 cases ao with
 |none=>
  have hn:news=[]:=by
   rcases hr with h|⟨b,o,h,_⟩
   ·exact h
   ·cases h
  subst hn
  subst hl
  exact Src.ofNil w hk c
 |some a=>exact Src.ofSlice w hk a m c news (by simp[hl]) hr.cells h1
theorem zeros_eq1(z:Value)(hz:z.cells=#[z])(k:Nat):Builtin.zeroCells z.cells k=(List.replicate k z).toArray:=by
 rw[hz]
 apply Array.ext
 ·simp[Builtin.zeroCells]
 ·intro i h1 h2
  simp[Builtin.zeroCells]
  have:i % 1=0:=by omega
  simp[this]
structure ElemTy(P:Program)(t e:TypeId)(z:Value)(bt:Nat):Prop where
 ht:P.underlying t=some (.slice e)
 hi:(P.info? e).map (fun i=>(i.zero,i.size,i.bytes))=some (some z,1,bt)
 hz:z.cells=#[z]
theorem run_append_row{P:Program}{t e:TypeId}{z:Value}{bt:Nat}(T:ElemTy P t e z bt)(w:World)(B:Nat)(tx ty:TypeId)(v:Value)(n:Nat)(xs:List Value)(hown:OwnV B w e v n xs)
  (x:Value) (m:Nat) (news:List Value) (hs:Src P 1 tx x m news w) (hb:(n+m)*bt<=140737488355328) (h63:n+m<=maxLen) (hB:B<=w.heap.size) :
  ∃v' w' xs',(Builtin.append_ #[t,tx] ty #[v,x]).run P w=.ok v' w'/\OwnV B w' e v' (n+m) xs'/\xs'.take (n+m)=xs.take n++news/\w.grownBy w' v.ownBlock/\(∀Q:Value->Prop,Q z->(∀u∈xs,Q u)->(∀u∈news,Q u)->∀u∈xs',Q u)/\(n+m<=xs.length->xs'.length=xs.length):=by
 obtain ⟨i,hi,hz0,hz1,hz2⟩:=info_parts T.hi
 have hs':Src P i.size tx x m news w:=by rw[hz1];exact hs
 have hnl:news.length=m:=by simpa using hs.newsLen
 have grow:∀(base:Option Addr) (old:Nat),v=.slice base n old->old<n+m->(Builtin.firstCells i.size n (.slice base n old)).run P w.drew=.ok (xs.take n).toArray w.drew->(xs.take n).length=n->(n+m<=xs.length->False)->
   ∃v' w' xs',(Builtin.append_ #[t,tx] ty #[v,x]).run P w=.ok v' w'/\OwnV B w' e v' (n+m) xs'/\xs'.take (n+m)=xs.take n++news/\w.grownBy w' v.ownBlock/\(∀Q:Value->Prop,Q z->(∀u∈xs,Q u)->(∀u∈news,Q u)->∀u∈xs',Q u)/\(n+m<=xs.length->xs'.length=xs.length):=by
  intro base old hv ho hold htl hno
  have hge:=grownCap_ge w (n+m) old e
  have hle:=grownCap_le_maxLen w (n+m) old e h63
  have hr':=run_append_grow_src (P:=P) w t tx ty e i z T.ht hi hz0 base n old (xs.take n) hold x m news hs' ho (by simp only[maxLen] at h63;omega) (growslice_fits ho (by rw[hz2];exact hb))
  rw[zeros_eq1 z T.hz] at hr'
  have e1:((xs.take n++news).toArray++(List.replicate (grownCap w (n+m) old e - (n+m)) z).toArray)=(xs.take n++news++List.replicate (grownCap w (n+m) old e - (n+m)) z).toArray:=by simp
  rw[e1] at hr'
  have hl:(xs.take n++news++List.replicate (grownCap w (n+m) old e - (n+m)) z).length=grownCap w (n+m) old e:=by
   simp only[List.length_append,htl,hnl,List.length_replicate];omega
  rw[hv]
  refine ⟨_,_,xs.take n++news++List.replicate (grownCap w (n+m) old e - (n+m)) z,hr',.inr ⟨w.heap.size,by rw[hl],hB,heap_alloc_new w.drew _,by rw[hl];exact hge,by rw[hl];exact hle⟩,?_,⟨rfl,rfl,rfl,by simp,fun k hk _=>Below.heap_alloc w.drew _ k hk⟩,?_,fun h=>(hno h).elim⟩
  ·rw[List.take_append_of_le_length (by simp only[List.length_append,htl,hnl];omega)]
   exact List.take_of_length_le (by simp only[List.length_append,htl,hnl];omega)
  ·intro Q qz qx qn u hu
   simp only[List.mem_append,List.mem_replicate] at hu
   rcases hu with (hu|hu)|⟨_,rfl⟩
   ·exact qx u (List.mem_of_mem_take hu)
   ·exact qn u hu
   ·exact qz
 rcases hown with ⟨rfl,rfl,rfl⟩|⟨g,rfl,hBg,hblk,hn,hm⟩
 ·by_cases hm0:m=0
  ·subst hm0
   have hnews:news=[]:=List.eq_nil_of_length_eq_zero hnl
   subst hnews
   refine ⟨.slice none 0 0,w,[],?_,.inl ⟨rfl,rfl,rfl⟩,by simp,World.grownBy.refl _ _,(fun Q _ _ _ u hu=>nomatch hu),fun _=>rfl⟩
   rcases hs'.kind with ⟨e',hk⟩|hk <;> simp[Builtin.append_,run_underlying T.ht,run_underlying hk,sizeOf,typeInfo,hi,hs'.len,hs'.cells]
  ·exact grow none 0 rfl (by omega) (run_firstCells_none w.drew i.size 0 0 0) (by simp) (fun h=>by simp at h;omega)
 ·by_cases hroom:n+m<=xs.length
  ·have hc:∀j,j<news.length->(w.cell? ⟨g,0+n*i.size+j,none⟩).isSome=true:=by
    intro j hj
    have h2:0+n*i.size+j<xs.length:=by rw[hz1];omega
    rw[hblk.cell _ h2];rfl
   have hf:∀j,j<news.length->w.frozen? ⟨g,0+n*i.size+j,none⟩=false:=fun j _=>hblk.frozen _
   have hr':=run_append_room_src (P:=P) w t tx ty e i T.ht hi g 0 n xs.length x m news hs' hroom hc hf
   obtain ⟨hset,hgr⟩:BlkV (w.setCells g (0+n*i.size) news) g e (xs.take n++news++xs.drop (n+m))/\w.grownBy (w.setCells g (0+n*i.size) news) (some g):=by
    have:=BlkV.cellsSet news n hblk (by omega)
    rw[hnl] at this
    rw[hz1,Nat.mul_one,Nat.zero_add]
    exact this
   have hlen:(xs.take n++news++xs.drop (n+m)).length=xs.length:=by simp[hnl];omega
   refine ⟨_,_,xs.take n++news++xs.drop (n+m),hr',.inr ⟨g,by rw[hlen],hBg,hset,by rw[hlen];exact hroom,by rw[hlen];exact hm⟩,?_,?_,?_,fun _=>hlen⟩
   ·rw[List.take_append_of_le_length (by simp[hnl];omega)]
    exact List.take_of_length_le (by simp[hnl];omega)
   ·exact hgr
   ·intro Q qz qx qn u hu
    simp only[List.mem_append] at hu
    rcases hu with (hu|hu)|hu
    ·exact qx u (List.mem_of_mem_take hu)
    ·exact qn u hu
    ·exact qx u (List.mem_of_mem_drop hu)
  ·refine grow (some ⟨g,0,none⟩) xs.length rfl (by omega) ?_ (by simp;omega) (fun h=>hroom h)
   have:=run_firstCells_some (P:=P) w.drew i.size n ⟨g,0,none⟩ n xs.length (xs.take n) (by rw[hz1];simp;omega) (fun j u hu=>(hblk.below (Below.refl _ _).drew).rd n |>.cells j u hu)
   exact this
theorem wpList_append_row{P:Program}{t e:TypeId}{z:Value}{bt:Nat}(T:ElemTy P t e z bt)(w:World){ops:Array Oper}{rest:List Oper}{o:Oper}{a:Act}{Q:Exit->Act->World->Prop}(hgd:o.guard=none)(s x:Operand)(tx:TypeId)
  (ho:o.op=.call { callee:=.builtin .append,args:=#[s,x],argTypes:=#[t,tx] }) (B:Nat) (v:Value) (n:Nat) (xs:List Value) (hs:a.eval s=v) (hown:OwnV B w e v n xs)
  (xv:Value) (m:Nat) (news:List Value) (hx:a.eval x=xv) (hsrc:Src P 1 tx xv m news w) (hb:(n+m)*bt<=140737488355328) (h63:n+m<=maxLen) (hB:B<=w.heap.size)
  (h:∀v' w' xs',Hid (OwnV B w' e v' (n+m) xs')->Hid (xs'.take (n+m)=xs.take n++news)->w.grownBy w' v.ownBlock->Hid ((∀Q:Value->Prop,Q z->(∀u∈xs,Q u)->(∀u∈news,Q u)->∀u∈xs',Q u)/\(n+m<=xs.length->xs'.length=xs.length))->wpList P ops Q rest (a.put o.dst v') w'):wpList P ops Q (o::rest) a w:=by
 refine wpList_plain hgd fun K hK=>?_
 obtain ⟨v',w',xs',hrun,h2,h3,h4,h5⟩:=run_append_row T w B tx o.type v n xs hown xv m news hsrc hb h63 hB
 unfold Oper.wp execOp
 simp only[ho,resolve,invoke,builtin,Sem.run_bind,Sem.run_pure,Result.andThen_ok,List.map_toArray,List.map_cons,List.map_nil,hs,hx,hrun]
 exact hK _ _ (h v' w' xs' h2 h3 h4 h5)
theorem tyT:ElemTy Tryz.prog 22 9 (.string ⟨#[]⟩) 16:=⟨Tryz.underlying22,by kernel_rfl,rfl⟩
theorem tyN:ElemTy Tryz.prog 23 9 (.string ⟨#[]⟩) 16:=⟨Tryz.underlying23,by kernel_rfl,rfl⟩
def tv(ss:List ByteArray):List Value:=ss.map Value.string
theorem tv_len(ss:List ByteArray):(tv ss).length=ss.length:=by simp[tv]
theorem tv_at(ss:List ByteArray)(i:Nat)(h:i<(tv ss).length):(tv ss)[i]=.string (ss[i]'(by rw[<- tv_len];exact h)):=by simp[tv]
theorem tv_one(ss:List ByteArray):∀u∈tv ss,u.oneCell'=true:=by
 intro u hu
 simp only[tv,List.mem_map] at hu
 obtain ⟨s,_,rfl⟩:=hu
 rfl
theorem tv_append(a b:List ByteArray):tv (a++b)=tv a++tv b:=by simp[tv]
theorem tv_take(a:List ByteArray)(n:Nat):(tv a).take n=tv (a.take n):=by simp[tv,List.map_take]
def RdT(w:World)(a:Option Addr)(ss:List ByteArray):Prop:=RdV w a (tv ss)
theorem RdT.below{w w':World}{a:Option Addr}{ss:List ByteArray}(h:RdT w a ss)(hb:Below w.heap.size w w'):RdT w' a ss:=RdV.below h hb
theorem RdT.at{w:World}{a:Option Addr}{ss:List ByteArray}(h:RdT w a ss)(i:Nat)(hi:i<ss.length):∃b o,a=some ⟨b,o,none⟩/\b<w.heap.size/\w.cell? ⟨b,o+i,none⟩=some (.string ss[i]):=by
 rcases h with h|⟨b,o,rfl,h1,h2⟩
 ·have:=congrArg List.length h
  rw[tv_len] at this
  simp at this
  subst this
  simp at hi
 ·refine ⟨b,o,rfl,h1,?_⟩
  rw[h2 i (by rw[tv_len];exact hi),tv_at]
theorem sameT_yes(a b:Option Addr)(n c d:Nat)(ss:List ByteArray)(w:World)(hr:RdT w a ss)(hr':RdT w b ss)(hl:ss.length=n)(hn:n<=9223372036854775807) :
  Calls Tryz.prog 72 #[.slice a n c,.slice b n d] w fun e w'=>e=.returned (.bool true)/\Hid (Below w.heap.size w w'):=by
 have HR:Hid (RdT w a ss/\RdT w b ss):=⟨hr,hr'⟩
 have HL:Hid (ss.length=n):=hl
 clear hr hr' hl
 go_enter Tryz.func72,Tryz.ntmps72
 go_wp2_with fail
 go_loopw [5] (fun x wr=>∃k:Nat,k<=n/\x=.int .i64 k/\Hid (Below w.heap.size w wr)) (fun x _=>n - (intOf x).toNat)
 case atStart=>exact ⟨0,Nat.zero_le _,rfl,Below.refl _ _⟩
 case round=>
  obtain ⟨k,hk,rfl,HB⟩:=hrel
  by_cases hlt:k<n
  ·have hlt':(k:Int)<(n:Int):=by omega
   have hks:k<ss.length:=by rw[HL.out];exact hlt
   obtain ⟨b1,o1,rfl,l1,c1⟩:=(HR.out.1.below HB.out).at k hks
   obtain ⟨b2,o2,rfl,l2,c2⟩:=(HR.out.2.below HB.out).at k hks
   generalize ss[k]=s at*
   go_wp2_with fail
   go_quiet (fail)
   have HB2:Hid (Below w.heap.size w (wr.drewN nq)):=HB.out.trans ⟨rfl,rfl,rfl,Nat.le_refl _,fun _ _=>rfl⟩
   clear c1 c2
   generalize wr.drewN nq=W2 at*
   go_wp2
   exact ⟨⟨k+1,by omega,by go_num,HB2⟩,by simp[intOf];omega⟩
  ·have hge:(n:Int)<=(k:Int):=by omega
   go_wp2
   go_ret
   exact ⟨rfl,HB.out⟩
def mk:ByteArray:=⟨#[108,101,110,116]⟩
def QS(M:Nat)(u:Value):Prop:=∃s:ByteArray,u=.string s/\s.size<=M
theorem tv_of{M:Nat}:∀xs:List Value,(∀u∈xs,QS M u)->∃ys,xs=tv ys/\∀s∈ys,s.size<=M
 |[],_=>⟨[],rfl,by simp⟩
 |x::xs,h=>by
  obtain ⟨ys,e1,e2⟩:=tv_of xs (fun u hu=>h u (by simp[hu]))
  obtain ⟨s,rfl,hs⟩:=h x (by simp)
  refine ⟨s::ys,by rw[e1];rfl,fun q hq=>?_⟩
  rcases List.mem_cons.1 hq with rfl|hq
  ·exact hs
  ·exact e2 q hq
theorem qs_tv{M:Nat}{ss:List ByteArray}(h:∀s∈ss,s.size<=M):∀u∈tv ss,QS M u:=by
 intro u hu
 simp only[tv,List.mem_map] at hu
 obtain ⟨s,hs,rfl⟩:=hu
 exact ⟨s,rfl,h s hs⟩
theorem tv_inj:∀{a b:List ByteArray},tv a=tv b->a=b
 |[],[],_=>rfl
 |[],_::_,h=>by simp[tv] at h
 |_::_,[],h=>by simp[tv] at h
 |x::a,y::b,h=>by
  simp only[tv,List.map_cons,List.cons.injEq,Value.string.injEq] at h
  rw[h.1,tv_inj (a:=a) (b:=b) h.2]
def OwnT(B:Nat)(w:World)(v:Value)(n:Nat)(ss:List ByteArray)(M:Nat):Prop:=OwnV B w 9 v n (tv ss)/\∀s∈ss,s.size<=M
theorem OwnT.below{B:Nat}{w w':World}{v:Value}{n:Nat}{ss:List ByteArray}{M:Nat}(h:OwnT B w v n ss M)(hb:Below w.heap.size w w'):OwnT B w' v n ss M:=⟨h.1.below hb,h.2⟩
theorem OwnT.mono{B B':Nat}{w:World}{v:Value}{n:Nat}{ss:List ByteArray}{M:Nat}(h:OwnT B w v n ss M)(hB:B'<=B):OwnT B' w v n ss M:=⟨h.1.mono hB,h.2⟩
theorem OwnT.nil(B:Nat)(w:World)(M:Nat):OwnT B w (.slice none 0 0) 0 [] M:=⟨OwnV.nil B w 9,by simp⟩
theorem OwnT.rd{B:Nat}{w:World}{ao:Option Addr}{n c:Nat}{ss:List ByteArray}{M:Nat}(h:OwnT B w (.slice ao n c) n ss M)(m:Nat):RdT w ao (ss.take m):=by
 have:=h.1.rd m
 rw[tv_take] at this
 exact this
theorem OwnT.shape{B:Nat}{w:World}{v:Value}{n:Nat}{ss:List ByteArray}{M:Nat}(h:OwnT B w v n ss M):∃ao,v=.slice ao n ss.length/\(ao=none->ss.length=0):=by
 obtain ⟨ao,h1,h2⟩:=h.1.shape
 rw[tv_len] at h1 h2
 exact ⟨ao,h1,h2⟩
theorem OwnT.le{B:Nat}{w:World}{v:Value}{n:Nat}{ss:List ByteArray}{M:Nat}(h:OwnT B w v n ss M):n<=ss.length/\ss.length<=maxLen:=by
 have:=h.1.le
 rw[tv_len] at this
 exact this
theorem wpList_append_T{t:TypeId}(T:ElemTy Tryz.prog t 9 (.string ⟨#[]⟩) 16)(w:World){ops:Array Oper}{rest:List Oper}{o:Oper}{a:Act}{Q:Exit->Act->World->Prop}(hgd:o.guard=none)(s x:Operand)(tx e':TypeId)(hk:Tryz.prog.underlying tx=some (.slice e'))
  (ho:o.op=.call { callee:=.builtin .append,args:=#[s,x],argTypes:=#[t,tx] }) (B:Nat) (v:Value) (n:Nat) (ss:List ByteArray) (M:Nat) (hs:a.eval s=v) (hown:OwnT B w v n ss M)
  (ao:Option Addr) (m c:Nat) (ns:List ByteArray) (hx:a.eval x=.slice ao m c) (hr:RdT w ao ns) (hl:ns.length=m) (hM:∀s∈ns,s.size<=M) (hb:n+m<=8796093022000) (hB:B<=w.heap.size)
  (h:∀v' w' ys,Hid (OwnT B w' v' (n+m) ys M)->Hid (ys.take (n+m)=ss.take n++ns)->w.grownBy w' v.ownBlock->wpList Tryz.prog ops Q rest (a.put o.dst v') w'):wpList Tryz.prog ops Q (o::rest) a w:=by
 refine wpList_append_row T w hgd s x tx ho B v n (tv ss) hs hown.1 (.slice ao m c) m (tv ns) hx (src_of hk hr (by rw[tv_len];exact hl) (tv_one ns)) (by omega) (by simp only[maxLen];omega) hB ?_
 intro v' w' xs' h1 h2 h3 h4
 obtain ⟨ys,rfl,hys⟩:=tv_of (M:=M) xs' (h4.out.1 (QS M) ⟨⟨#[]⟩,rfl,Nat.zero_le _⟩ (qs_tv hown.2) (qs_tv hM))
 refine h v' w' ys ⟨h1.out,hys⟩ ?_ h3
 have h2':=h2.out
 rw[tv_take,tv_take,<- tv_append] at h2'
 exact tv_inj h2'
theorem one_rdT(w:World)(s:ByteArray):RdT (w.alloc (.cells #[.string s] 9)) (some ⟨w.heap.size,0,none⟩) [s]:=by
 refine .inr ⟨w.heap.size,0,rfl,by simp,fun i hi=>?_⟩
 have:i=0:=by simp[tv] at hi;omega
 subst this
 simp[go_sem,tv]
def CopyPost(ss:List ByteArray)(M:Nat)(w:World)(e:Ending)(w':World):Prop:=
 ∃v ys,e=.returned v/\Hid (OwnT w.heap.size w' v ss.length ys M/\ys.take ss.length=ss/\Below w.heap.size w w')
theorem sameN_yes(a b:Option Addr)(n c d:Nat)(ss:List ByteArray)(w:World)(hr:RdT w a ss)(hr':RdT w b ss)(hl:ss.length=n)(hn:n<=9223372036854775807) :
  Calls Tryz.prog 46 #[.slice a n c,.slice b n d] w fun e w'=>e=.returned (.bool true)/\Hid (Below w.heap.size w w'):=by
 have HX:Hid (Calls Tryz.prog 72 #[.slice a n c,.slice b n d] w fun e w'=>e=.returned (.bool true)/\Hid (Below w.heap.size w w')):=sameT_yes a b n c d ss w hr hr' hl hn
 clear hr hr' hl
 go_enter Tryz.func46,Tryz.ntmps46
 go_wp2_with fail
 refine HX.out.mono ?_
 rintro e w1 ⟨rfl,H1⟩
 go_wp2
 go_ret
 exact ⟨rfl,H1⟩
end Go.Proofs.YtjkljpdolhglcaaGreatDoor
namespace Go.Proofs.YtjkljpdolhglcaaGreatDoor
open Go Go.Lib
def xq1(c:Int):List Int:=if c<32∨126<c then [92,48+c / 100,48+c / 10 % 10,48+c % 10] else if c=34∨c=92 then [92,c] else [c]
def xq(l:List Int):List Int:=l.flatMap xq1
def xquote(l:List Int):List Int:=34::(xq l++[34])
def xdig(c:Int):Bool:=decide (48<=c) && decide (c<=57)
def xstr(l:List Int):Option (List Int):=
 match l with
 |[]=>some []
 |c::l=>if c=92 then (match l with
   |[]=>none
   |d::r=>if xdig d then (match r with
     |e::f::q=>if xdig e && xdig f && decide (100*(d - 48)+10*(e - 48)+(f - 48)<=255) then (xstr q).map (fun o=>(100*(d - 48)+10*(e - 48)+(f - 48))::o) else none
     |_=>none)
    else (xstr r).map (fun o=>d::o))
  else (xstr l).map (fun o=>c::o)
termination_by l.length
theorem xstr_plain(c:Int)(l:List Int)(h:c≠92):xstr (c::l)=(xstr l).map (fun o=>c::o):=by
 rw[xstr.eq_def];simp[h]
theorem xstr_esc(d:Int)(r:List Int)(h:xdig d=false):xstr (92::d::r)=(xstr r).map (fun o=>d::o):=by
 rw[xstr.eq_def];simp[h]
theorem xstr_num(d e f:Int)(q:List Int)(h1:xdig d=true)(h2:xdig e=true)(h3:xdig f=true)(h4:100*(d - 48)+10*(e - 48)+(f - 48)<=255):xstr (92::d::e::f::q)=(xstr q).map (fun o=>(100*(d - 48)+10*(e - 48)+(f - 48))::o):=by
 rw[xstr];simp[h1,h2,h3,h4]
theorem xq_print(l:List Int)(h:∀c∈l,0<=c/\c<=255):∀c∈xq l,32<=c/\c<=126:=by
 intro c hc
 simp only[xq,List.mem_flatMap] at hc
 obtain ⟨b,hb,hc⟩:=hc
 have:=h b hb
 unfold xq1 at hc
 split at hc
 ·simp at hc;omega
 ·split at hc
  ·simp at hc;omega
  ·simp at hc;omega
theorem xquote_print(l:List Int)(h:∀c∈l,0<=c/\c<=255):∀c∈xquote l,32<=c/\c<=126:=by
 intro c hc
 simp only[xquote,List.mem_cons,List.mem_append,List.mem_singleton,List.not_mem_nil,or_false] at hc
 rcases hc with rfl|hc|rfl
 ·omega
 ·exact xq_print l h c hc
 ·omega
def xsplit(c:Int):List Int->List (List Int)
 |[]=>[[]]
 |x::l=>if x=c then []::xsplit c l else (match xsplit c l with|[]=>[[x]]|p::ps=>(x::p)::ps)
theorem xsplit_none(c:Int)(l:List Int)(h:c ∉ l):xsplit c l=[l]:=by
 induction l with
 |nil=>rfl
 |cons x l ih=>
  simp only[List.mem_cons,not_or] at h
  simp only[xsplit]
  rw[if_neg (fun e=>h.1 e.symm),ih h.2]
theorem xsplit_app(c:Int)(p l:List Int)(h:c ∉ p):xsplit c (p++c::l)=p::xsplit c l:=by
 induction p with
 |nil=>simp[xsplit]
 |cons x p ih=>
  simp only[List.mem_cons,not_or] at h
  simp only[List.cons_append,xsplit]
  rw[if_neg (fun e=>h.1 e.symm),ih h.2]
def xdec(n:Nat):List Int:=(decDigits n).map fun b=>(b.toNat:Int)
def xhv(c:Int):Option Nat:=if 48<=c/\c<=57 then some (c - 48).toNat else if 97<=c/\c<=102 then some (c - 87).toNat else if 65<=c/\c<=70 then some (c - 55).toNat else none
def xhval:List Int->Option Nat
 |l=>l.foldl (fun a c=>a.bind fun n=>(xhv c).map fun v=>16*n+v) (some 0)
def xgrp(l:List Int):Option Nat:=if 1<=l.length/\l.length<=4 then xhval l else none
def xby(n:Nat):List Int:=[((n / 256:Nat):Int),((n % 256:Nat):Int)]
def xgrps(l:List Int):Option (List Int):=if l=[] then some [] else ((xsplit 58 l).mapM xgrp).map fun ns=>ns.flatMap xby
def xdc:List Int->Option (List Int × List Int)
 |[]=>none
 |x::l=>if x=58 then (match l with|58::r=>some ([],r)|_=>(xdc l).map fun p=>(x::p.1,p.2)) else (xdc l).map fun p=>(x::p.1,p.2)
def xsix(l:List Int):Option (List Int):=
 match xdc l with
 |some p=>(xgrps p.1).bind fun a=>(xgrps p.2).bind fun b=>if a.length+b.length<=14 then some (a++List.replicate (16 - a.length - b.length) 0++b) else none
 |none=>(xgrps l).bind fun a=>if a.length=16 then some a else none
theorem xdc_pre(p r:List Int)(h:(58:Int) ∉ p):xdc (p++r)=(xdc r).map fun q=>(p++q.1,q.2):=by
 induction p with
 |nil=>simp
 |cons x p ih=>
  simp only[List.mem_cons,not_or] at h
  rw[List.cons_append,xdc.eq_def]
  simp only
  rw[if_neg (fun e=>h.1 e.symm),ih h.2,Option.map_map]
  rfl
theorem xdc_two(r:List Int):xdc (58::58::r)=some ([],r):=by rw[xdc];simp
theorem xby_len(l:List Nat):(l.flatMap xby).length=2*l.length:=by
 induction l with
 |nil=>rfl
 |cons n l ih=>rw[List.flatMap_cons,List.length_append,ih];simp[xby];omega
def xdv(l:List Int):Nat:=l.foldl (fun a b=>10*a+(b - 48).toNat) 0
theorem xdec_small{n:Nat}(h:n<10):xdec n=[48+(n:Int)]:=by
 unfold xdec
 rw[decDigits,dif_pos h]
 simp[UInt8.toNat_ofNat']
 omega
theorem xdec_big{n:Nat}(h:¬ n<10):xdec n=xdec (n / 10)++[48+((n % 10:Nat):Int)]:=by
 unfold xdec
 rw[decDigits,dif_neg h,List.map_append]
 congr 1
 simp[UInt8.toNat_ofNat']
 omega
theorem xdv_dec(n:Nat):xdv (xdec n)=n:=by
 induction n using Nat.strongRecOn with
 |_ n ih=>
  by_cases h:n<10
  ·rw[xdec_small h];simp[xdv];omega
  ·rw[xdec_big h]
   have e:=ih (n / 10) (by omega)
   unfold xdv at e ⊢
   rw[List.foldl_append,e]
   simp only[List.foldl_cons,List.foldl_nil]
   omega
theorem xdec_digit(n:Nat):∀c∈xdec n,48<=c/\c<=57:=by
 induction n using Nat.strongRecOn with
 |_ n ih=>
  by_cases h:n<10
  ·rw[xdec_small h];intro c hc;simp at hc;subst hc;omega
  ·rw[xdec_big h];intro c hc
   simp only[List.mem_append,List.mem_singleton] at hc
   rcases hc with hc|rfl
   ·exact ih (n / 10) (by omega) c hc
   ·omega
def xnum(l:List Int)(below:Nat):Option Nat:=if l=xdec (xdv l)/\xdv l<below then some (xdv l) else none
theorem xnum_some{l:List Int}{below n:Nat}(h:xnum l below=some n):l=xdec n/\n<below:=by
 unfold xnum at h
 split at h
 ·next q=>injection h with h;subst h;exact q
 ·cases h
def xfour(l:List Int):Option (List Int):=((xsplit 46 l).mapM fun p=>xnum p 256).bind fun a=>if a.length=4 then some (a.map Int.ofNat) else none
def xpaddr(l:List Int):Option (List Int):=match xfour l with|some b=>some b|none=>xsix l
def bi(l:List UInt8):List Int:=l.map fun b=>(b.toNat:Int)
theorem u8i{a b:UInt8}(h:(a.toNat:Int)=(b.toNat:Int)):a=b:=UInt8.toNat_inj.1 (by omega)
theorem bi_inj{l m:List UInt8}(h:bi l=bi m):l=m:=by
 induction l generalizing m with
 |nil=>cases m with
  |nil=>rfl
  |cons b m=>simp[bi] at h
 |cons a l ih=>cases m with
  |nil=>simp[bi] at h
  |cons b m=>
   simp only[bi,List.map_cons] at h
   injection h with h1 h2
   rw[u8i h1,ih h2]
theorem bi_len(l:List UInt8):(bi l).length=l.length:=by simp[bi]
theorem bi_app(l m:List UInt8):bi (l++m)=bi l++bi m:=by simp[bi]
theorem bi_cons(b:UInt8)(l:List UInt8):bi (b::l)=(b.toNat:Int)::bi l:=rfl
theorem bi_mem(c:UInt8)(l:List UInt8):(c.toNat:Int)∈bi l↔c∈l:=by
 unfold bi
 rw[List.mem_map]
 constructor
 ·rintro ⟨b,hb,e⟩;rw[<- u8i e];exact hb
 ·intro h;exact ⟨c,h,rfl⟩
theorem index_no(c:UInt8)(l:List UInt8)(h:c ∉ l):index l [c] = -1:=by
 induction l with
 |nil=>rfl
 |cons b l ih=>
  simp only[List.mem_cons,not_or] at h
  unfold index
  rw[ih h.2,if_neg (by simp[List.isPrefixOf];exact h.1)]
  rfl
theorem index_at(c:UInt8)(p r:List UInt8)(h:c ∉ p):index (p++c::r) [c]=p.length:=by
 induction p with
 |nil=>simp[index,List.isPrefixOf]
 |cons b p ih=>
  simp only[List.mem_cons,not_or] at h
  rw[List.cons_append,index.eq_def]
  simp only
  rw[ih h.2,if_neg (by simp[List.isPrefixOf];exact h.1)]
  have e:((p.length:Int) == -1)=false:=by rw[beq_eq_false_iff_ne];omega
  simp[e]
theorem split_x(c:UInt8):∀(n:Nat) (l:List UInt8),l.length<=n->(splitK [c] 0 (count l [c]) l).map bi=xsplit c.toNat (bi l):=by
 intro n
 induction n with
 |zero=>
  intro l hl
  have:l=[]:=List.length_eq_zero_iff.1 (by omega)
  subst this
  rfl
 |succ n ih=>
  intro l hl
  by_cases hc:c∈l
  ·obtain ⟨p,r,rfl,hp⟩:=List.eq_append_cons_of_mem hc
   have hi:=index_at c p r hp
   rw[count_hit (by simp) hi]
   have e0:(p++c::r).drop (p.length+[c].length)=r:=by
    rw[List.drop_append]
    simp
   rw[e0,Nat.add_comm 1,splitK,hi]
   have em:((p.length:Int) == -1)=false:=by rw[beq_eq_false_iff_ne];omega
   rw[em]
   simp only[Bool.false_eq_true,if_false,Int.toNat_natCast,Nat.add_zero]
   rw[e0,List.map_cons,ih r (by simp only[List.length_append,List.length_cons] at hl;omega),bi_app,bi_cons,
    xsplit_app _ _ _ (fun h=>hp ((bi_mem c p).1 h))]
   congr 1
   simp[List.take_append]
  ·have hi:=index_no c l hc
   rw[count_miss hi,splitK,xsplit_none _ _ (fun h=>hc ((bi_mem c l).1 h))]
   rfl
theorem split_b(c:UInt8)(s:ByteArray):(splitB ⟨#[c]⟩ 0 (countB s ⟨#[c]⟩) s).map (fun t=>bi t.data.toList)=xsplit c.toNat (bi s.data.toList):=by
 have h:=splitB_data ⟨#[c]⟩ 0 (countB s ⟨#[c]⟩) s
 have h2:=split_x c s.data.toList.length s.data.toList (Nat.le_refl _)
 rw[show (fun t:ByteArray=>bi t.data.toList)=bi ∘ (fun t:ByteArray=>t.data.toList) from rfl,<- List.map_map,h]
 exact h2
theorem splitK_len(sep:List UInt8)(sv:Nat):∀(k:Nat) (l:List UInt8),k<=count l sep->sep≠[]->(splitK sep sv k l).length=k+1:=by
 intro k
 induction k with
 |zero=>intro l _ _;rfl
 |succ k ih=>
  intro l hk hs
  rcases index_spec l sep with ⟨h1,_⟩|⟨i,h1,_,_,_⟩
  ·rw[count_miss h1] at hk;omega
  ·rw[count_hit hs h1] at hk
   rw[splitK,h1]
   have em:((i:Int) == -1)=false:=by rw[beq_eq_false_iff_ne];omega
   rw[em]
   simp only[Bool.false_eq_true,if_false,Int.toNat_natCast,List.length_cons]
   rw[ih _ (by omega) hs]
theorem splitB_len(c:UInt8)(s:ByteArray):(splitB ⟨#[c]⟩ 0 (countB s ⟨#[c]⟩) s).length=countB s ⟨#[c]⟩+1:=by
 have h:=congrArg List.length (splitB_data ⟨#[c]⟩ 0 (countB s ⟨#[c]⟩) s)
 rw[List.length_map] at h
 rw[h]
 exact splitK_len [c] 0 _ _ (Nat.le_refl _) (by simp)
theorem index_cc(l:List UInt8):(xdc (bi l)=none->index l [58,58] = -1)/\(∀p r,xdc (bi l)=some (p,r)->∃a b,l=a++58::58::b/\bi a=p/\bi b=r/\index l [58,58]=a.length):=by
 induction l with
 |nil=>exact ⟨fun _=>rfl,fun p r h=>by simp[bi,xdc] at h⟩
 |cons x l ih=>
  obtain ⟨i1,i2⟩:=ih
  have hstep:¬ (∃m,l=58::m/\x=58)->xdc (bi (x::l))=(xdc (bi l)).map (fun p=>((x.toNat:Int)::p.1,p.2))/\([58,58]:List UInt8).isPrefixOf (x::l)=false:=by
   intro hn
   rw[bi_cons,xdc.eq_def]
   simp only
   by_cases hx:x=58
   ·subst hx
    cases l with
    |nil=>exact ⟨by simp[bi,xdc],by simp[List.isPrefixOf]⟩
    |cons y l=>
     have hy:y≠58:=fun e=>hn ⟨l,by rw[e],rfl⟩
     have hy':(y.toNat:Int)≠58:=fun e=>hy (u8i e)
     refine ⟨?_,by simp[List.isPrefixOf];exact fun e=>hy e.symm⟩
     rw[if_pos (by rfl),bi_cons]
     split
     ·next r' e=>injection e with e1 e2;exact absurd e1 hy'
     ·rfl
   ·have hx':(x.toNat:Int)≠58:=fun e=>hx (u8i e)
    rw[if_neg hx']
    exact ⟨rfl,by simp[List.isPrefixOf];exact fun e=>absurd e.symm hx⟩
  by_cases hh:∃m,l=58::m/\x=58
  ·obtain ⟨m,rfl,rfl⟩:=hh
   have e:xdc (bi (58::58::m))=some ([],bi m):=xdc_two (bi m)
   have ei:index (58::58::m) [58,58]=0:=by unfold index;rw[if_pos (by simp[List.isPrefixOf])]
   refine ⟨fun h=>by (rw[e] at h;cases h),fun p r h=>?_⟩
   rw[e] at h
   injection h with h
   injection h with h1 h2
   exact ⟨[],m,rfl,h1,h2,ei⟩
  ·obtain ⟨h1,h2⟩:=hstep hh
   constructor
   ·intro h
    rw[h1,Option.map_eq_none_iff] at h
    unfold index
    rw[h2,i1 h];rfl
   ·intro p r h
    rw[h1,Option.map_eq_some_iff] at h
    obtain ⟨⟨q,t⟩,hq,he⟩:=h
    injection he with he1 he2
    subst he1;subst he2
    obtain ⟨a,b,rfl,ha,hb,hi⟩:=i2 q t hq
    refine ⟨x::a,b,rfl,by rw[bi_cons,ha],hb,?_⟩
    rw[index.eq_def]
    simp only
    rw[h2,hi]
    have em:((a.length:Int) == -1)=false:=by rw[beq_eq_false_iff_ne];omega
    simp[em]
theorem cut_none(l:List UInt8)(h:xdc (bi l)=none):Lib.cut l [58,58]=(l,[],false):=by
 unfold Lib.cut
 rw[(index_cc l).1 h,if_neg (by decide)]
theorem cut_some(l:List UInt8)(p r:List Int)(h:xdc (bi l)=some (p,r)):∃a b,Lib.cut l [58,58]=(a,b,true)/\bi a=p/\bi b=r:=by
 obtain ⟨a,b,rfl,ha,hb,hi⟩:=(index_cc l).2 p r h
 refine ⟨a,b,?_,ha,hb⟩
 unfold Lib.cut
 rw[hi,if_pos (by omega)]
 simp[List.drop_append]
theorem has_x(c:UInt8)(l:List UInt8):decide (0<=indexByte l c)=true↔c∈l:=by
 rw[<- index_one,decide_eq_true_iff]
 by_cases h:c∈l
 ·obtain ⟨p,r,rfl,hp⟩:=List.eq_append_cons_of_mem h
  rw[index_at c p r hp]
  simp only[h,iff_true];omega
 ·rw[index_no c l h]
  simp only[h,iff_false];decide
theorem xdv_snoc(l:List Int)(b:Int):xdv (l++[b])=10*xdv l+(b - 48).toNat:=by simp[xdv,List.foldl_append]
theorem xdec_ne(n:Nat):xdec n≠[]:=by
 by_cases h:n<10
 ·rw[xdec_small h];simp
 ·rw[xdec_big h];simp
theorem xdec_of(l:List Int)(h0:l≠[])(hd:∀b∈l,48<=b/\b<=57)(hz:1<l.length->∀b r,l=b::r->b≠48):l=xdec (xdv l)/\(1<l.length->10<=xdv l):=by
 have key:∀(n:Nat) (l:List Int),l.length=n->l≠[]->(∀b∈l,48<=b/\b<=57)->(1<l.length->∀b r,l=b::r->b≠48)->(l=xdec (xdv l)/\(1<l.length->10<=xdv l)):=by
  intro n
  induction n with
  |zero=>intro l hl h0;exact absurd (List.length_eq_zero_iff.1 hl) h0
  |succ n ih=>
   intro l hl h0 hd hz
   obtain ⟨q,b,rfl⟩:∃q b,l=q++[b]:=⟨l.dropLast,l.getLast h0,(List.dropLast_concat_getLast h0).symm⟩
   have hb:=hd b (by simp)
   have hq:∀c∈q,48<=c/\c<=57:=fun c hc=>hd c (by simp[hc])
   rw[xdv_snoc]
   by_cases hq0:q=[]
   ·subst hq0
    have e:10*xdv []+(b - 48).toNat=(b - 48).toNat:=by simp[xdv]
    rw[e,xdec_small (by omega)]
    refine ⟨?_,fun h=>by simp at h⟩
    simp only[List.nil_append,List.cons.injEq,and_true]
    omega
   ·have hql:q.length=n:=by simp at hl;omega
    have hp:0<q.length:=List.length_pos_iff.2 hq0
    obtain ⟨i1,i2⟩:=ih q hql hq0 hq (fun h b' r e=>hz (by simp;omega) b' (r++[b]) (by rw[e];rfl))
    have h1:1<=xdv q:=by
     by_cases h:1<q.length
     ·have:=i2 h;omega
     ·match q,hq0,h,hp with
      |[c],_,_,_=>
       have:=hz (by simp) c [b] rfl
       have hc:=hq c (by simp)
       simp[xdv];omega
      |_::_::_,_,h,_=>simp at h
    refine ⟨?_,fun _=>by omega⟩
    rw[xdec_big (by omega)]
    have e1:(10*xdv q+(b - 48).toNat) / 10=xdv q:=by omega
    have e2:(10*xdv q+(b - 48).toNat) % 10=(b - 48).toNat:=by omega
    rw[e1,e2,<- i1]
    congr 1
    simp only[List.cons.injEq,and_true]
    omega
 exact key l.length l rfl h0 hd hz
theorem xdec_head(n:Nat):∀b r,xdec n=b::r->b=48->n=0:=by
 induction n using Nat.strongRecOn with
 |_ n ih=>
  intro b r e hb
  by_cases h:n<10
  ·rw[xdec_small h] at e
   injection e with e _
   omega
  ·rw[xdec_big h] at e
   cases hq:xdec (n / 10) with
   |nil=>exact absurd hq (xdec_ne _)
   |cons c q=>
    rw[hq,List.cons_append] at e
    injection e with e1 _
    have:=ih (n / 10) (by omega) c q hq (by omega)
    omega
theorem pu_ok(M:Nat)(hM:M<1844674407370955162):∀(l:List UInt8) (acc u:Nat),acc<=M->(parseUintM M acc l=.ok u↔((∀b∈bi l,48<=b/\b<=57)/\(bi l).foldl (fun a b=>10*a+(b - 48).toNat) acc=u/\u<=M)):=by
 intro l
 induction l with
 |nil=>
  intro acc u ha
  simp only[parseUintM,bi,List.map_nil,List.foldl_nil]
  constructor
  ·intro h;injection h with h;subst h;exact ⟨fun _ h=>(by cases h),rfl,ha⟩
  ·rintro ⟨_,h,_⟩;rw[h]
 |cons c r ih=>
  intro acc u ha
  rw[bi_cons,List.foldl_cons]
  have mono:∀(l:List Int) (a b:Nat),a<=b->a<=l.foldl (fun a b=>10*a+(b - 48).toNat) b:=by
   intro l
   induction l with
   |nil=>intro a b h;exact h
   |cons x l ih=>intro a b h;rw[List.foldl_cons];exact ih a _ (by omega)
  simp only[parseUintM]
  by_cases hc:48<=c.toNat/\c.toNat<=57
  ·rw[if_pos hc,if_neg (by omega)]
   have e:acc*10+(c.toNat - 48)=10*acc+((c.toNat:Int) - 48).toNat:=by omega
   by_cases hm:M<acc*10+(c.toNat - 48)
   ·rw[if_pos hm]
    constructor
    ·intro h;cases h
    ·rintro ⟨_,h1,h2⟩
     have:=mono (bi r) _ _ (Nat.le_refl (10*acc+((c.toNat:Int) - 48).toNat))
     omega
   ·rw[if_neg hm,ih _ u (by omega),e]
    constructor
    ·rintro ⟨h1,h2,h3⟩
     refine ⟨?_,h2,h3⟩
     intro b hb
     rcases List.mem_cons.1 hb with rfl|hb
     ·omega
     ·exact h1 b hb
    ·rintro ⟨h1,h2,h3⟩
     exact ⟨fun b hb=>h1 b (List.mem_cons_of_mem _ hb),h2,h3⟩
  ·rw[if_neg hc]
   constructor
   ·intro h;cases h
   ·rintro ⟨h1,_⟩
    have:=h1 (c.toNat:Int) (List.mem_cons_self ..)
    omega
theorem lnum_zero(l:List Int)(below:Nat)(h1:1<l.length)(h2:l.head?=some 48):xnum l below=none:=by
 unfold xnum
 rw[if_neg]
 rintro ⟨h,_⟩
 cases l with
 |nil=>simp at h1
 |cons b r=>
  simp at h2
  have:=xdec_head (xdv (b::r)) b r h.symm h2
  rw[this] at h
  rw[h,show (0:Nat)=0 from rfl,xdec_small (by omega)] at h1
  simp at h1
theorem lnum_ok(B:Nat)(hB:2 ^ B - 1<1844674407370955162)(l:List UInt8)(u:Nat)(hz:¬ (1<l.length/\(bi l).head?=some 48)):parseUintB B l=.ok u↔xnum (bi l) (2 ^ B)=some u:=by
 have hp:0<2 ^ B:=Nat.two_pow_pos B
 unfold parseUintB
 by_cases h0:l=[]
 ·subst h0
  rw[if_pos rfl]
  constructor
  ·intro h;cases h
  ·intro h
   have:=(xnum_some h).1
   exact absurd this.symm (xdec_ne _)
 ·rw[if_neg h0,pu_ok _ hB l 0 u (by omega)]
  have hb0:bi l≠[]:=fun e=>h0 (by cases l with|nil=>rfl|cons=>simp[bi] at e)
  constructor
  ·rintro ⟨h1,h2,h3⟩
   have h2':xdv (bi l)=u:=h2
   obtain ⟨e1,_⟩:=xdec_of (bi l) hb0 h1 (fun hl b r e hb=>hz ⟨by rw[bi_len] at hl;exact hl,by rw[e,hb];rfl⟩)
   unfold xnum
   rw[<- h2',if_pos ⟨e1,by omega⟩]
  ·intro h
   obtain ⟨e1,e2⟩:=xnum_some h
   refine ⟨?_,?_,by omega⟩
   ·rw[e1];exact xdec_digit u
   ·rw[e1];exact xdv_dec u
theorem three_ok(a b c:UInt8)(u:Nat):parseUintB 8 [a,b,c]=.ok u↔(xdig a.toNat=true/\xdig b.toNat=true/\xdig c.toNat=true/\(100*((a.toNat:Int) - 48)+10*(b.toNat - 48)+(c.toNat - 48):Int)=u/\u<=255):=by
 unfold parseUintB
 rw[if_neg (by simp),pu_ok _ (by decide) _ _ _ (by omega)]
 simp only[bi,List.map_cons,List.map_nil,List.foldl_cons,List.foldl_nil,List.mem_cons,List.not_mem_nil,or_false,forall_eq_or_imp,forall_eq,xdig,Bool.and_eq_true,decide_eq_true_eq]
 constructor
 ·rintro ⟨⟨h1,h2,h3⟩,h4,h5⟩
  refine ⟨h1,h2,h3,by omega,by omega⟩
 ·rintro ⟨h1,h2,h3,h4,h5⟩
  refine ⟨⟨h1,h2,h3⟩,by omega,by omega⟩
def b2(b:Bool):Nat:=if b then 1 else 0
def puX(acc:Nat):List UInt8->NumEnd Nat
 |[]=>.ok acc
 |c::r=>match xhv c.toNat with
  |none=>.syntax
  |some d=>if 65535<acc*16+d then .range else puX (acc*16+d) r
def puH(l:List UInt8):NumEnd Nat:=if l=[] then .syntax else puX 0 l
theorem xhv_lt{c:Int}{d:Nat}(h:xhv c=some d):d<16:=by
 unfold xhv at h
 split at h
 ·injection h;omega
 ·split at h
  ·injection h;omega
  ·split at h
   ·injection h;omega
   ·cases h
theorem xfold_none(l:List Int):l.foldl (fun a c=>a.bind fun n=>(xhv c).map fun v=>16*n+v) (none:Option Nat)=none:=by
 induction l with
 |nil=>rfl
 |cons c l ih=>rw[List.foldl_cons];exact ih
theorem puX_ok:∀(l:List UInt8) (acc u:Nat),puX acc l=.ok u->(bi l).foldl (fun a c=>a.bind fun n=>(xhv c).map fun v=>16*n+v) (some acc)=some u:=by
 intro l
 induction l with
 |nil=>intro acc u h;simp only[puX] at h;injection h with h;subst h;rfl
 |cons c r ih=>
  intro acc u h
  simp only[puX] at h
  rw[bi_cons,List.foldl_cons]
  cases hc:xhv c.toNat with
  |none=>rw[hc] at h;cases h
  |some d=>
   rw[hc] at h
   simp only at h
   split at h
   ·cases h
   ·have e:((some acc).bind fun n=>(some d).map fun v=>16*n+v)=some (acc*16+d):=by
     show some (16*acc+d)=_
     rw[Nat.mul_comm]
    rw[e]
    exact ih _ _ h
theorem puX_some:∀(l:List UInt8) (acc u k:Nat),l.length<=k->acc<16 ^ (4 - k)->k<=4->(bi l).foldl (fun a c=>a.bind fun n=>(xhv c).map fun v=>16*n+v) (some acc)=some u->puX acc l=.ok u:=by
 intro l
 induction l with
 |nil=>intro acc u k _ _ _ h;simp only[bi,List.map_nil,List.foldl_nil] at h;injection h with h;subst h;rfl
 |cons c r ih=>
  intro acc u k hk ha h4 h
  rw[bi_cons,List.foldl_cons] at h
  cases hc:xhv c.toNat with
  |none=>
   rw[hc] at h
   have:((some acc).bind fun n=>(none:Option Nat).map fun v=>16*n+v)=none:=rfl
   rw[this,xfold_none] at h
   cases h
  |some d=>
   rw[hc] at h
   have hd:=xhv_lt hc
   have e:((some acc).bind fun n=>(some d).map fun v=>16*n+v)=some (acc*16+d):=by
    show some (16*acc+d)=_
    rw[Nat.mul_comm]
   rw[e] at h
   simp only[List.length_cons] at hk
   have h16:acc*16+d<16 ^ (4 - (k - 1)):=by
    rw[show 4 - (k - 1)=(4 - k)+1 by omega,Nat.pow_succ]
    omega
   have hle:(16:Nat) ^ (4 - (k - 1))<=16 ^ 4:=Nat.pow_le_pow_right (by omega) (by omega)
   simp only[puX,hc]
   rw[if_neg (by omega)]
   exact ih _ u (k - 1) (by omega) h16 (by omega) h
theorem puH_grp(l:List UInt8)(u:Nat):(puH l=.ok u/\l.length<=4)↔xgrp (bi l)=some u:=by
 unfold puH xgrp
 rw[bi_len]
 by_cases h0:l=[]
 ·subst h0
  rw[if_pos rfl,if_neg (by simp)]
  constructor
  ·rintro ⟨h,_⟩;cases h
  ·intro h;cases h
 ·have hp:1<=l.length:=List.length_pos_iff.2 h0
  rw[if_neg h0]
  by_cases h4:l.length<=4
  ·rw[if_pos ⟨hp,h4⟩]
   constructor
   ·rintro ⟨h,_⟩;exact puX_ok l 0 u h
   ·intro h;exact ⟨puX_some l 0 u l.length (Nat.le_refl _) (Nat.pow_pos (by omega)) h4 h,h4⟩
  ·rw[if_neg (by omega)]
   constructor
   ·rintro ⟨_,h⟩;exact absurd h h4
   ·intro h;cases h
theorem puX_lt:∀(l:List UInt8) (acc u:Nat),acc<=65535->puX acc l=.ok u->u<=65535:=by
 intro l
 induction l with
 |nil=>intro acc u ha h;simp only[puX] at h;injection h with h;omega
 |cons c r ih=>
  intro acc u ha h
  simp only[puX] at h
  cases hc:xhv c.toNat with
  |none=>rw[hc] at h;cases h
  |some d=>
   rw[hc] at h
   simp only at h
   split at h
   ·cases h
   ·exact ih _ _ (by omega) h
end Go.Proofs.YtjkljpdolhglcaaGreatDoor
namespace Go.Proofs
open Go.Shelf
def Tryz.lays137_ren:Go.Shelf.Ren:=⟨fun|137=>80|217=>74|266=>96|n=>n,fun|9=>9|5=>5|3=>3|n=>n,fun|n=>n⟩
theorem Tryz.lays137:Go.Proofs.Lays.n137 Tryz.prog Tryz.lays137_ren:={
 mixed:=by kernel_rfl
 f137:=Tryz.func80.trans (congrArg some (by kernel_rfl))
 f217:=Tryz.func74.trans (congrArg some (by kernel_rfl))
 f266:=Tryz.func96.trans (congrArg some (by kernel_rfl))
 t3:=Tryz.underlying3
 a3:=Tryz.isAgg3
 z3:=Tryz.sizeOf3
 v3:=Tryz.zeroValue3
 t5:=Tryz.underlying5
 a5:=Tryz.isAgg5
 z5:=Tryz.sizeOf5
 v5:=Tryz.zeroValue5
 t9:=Tryz.underlying9
 a9:=Tryz.isAgg9
 z9:=Tryz.sizeOf9
 v9:=Tryz.zeroValue9 }
open Go.RowKit in
theorem Tryz.strings_IndexByte(s:ByteArray)(c:Int)(w:World) :
  Calls Tryz.prog 80 #[.string s,.int .u8 c] w fun e w'=>e=.returned (.int .i64 (Lib.indexByte s.data.toList c.toNat.toUInt8))/\w'=w:=Any.strings_IndexByte Tryz.lays137 s c w
def Tryz.lays103_ren:Go.Shelf.Ren:=⟨fun|103=>129|210=>146|206=>42|n=>n,fun|9=>9|4=>4|24=>189|3=>3|n=>n,fun|n=>n⟩
theorem Tryz.lays103:Go.Proofs.Lays.n103 Tryz.prog Tryz.lays103_ren:={
 mixed:=by kernel_rfl
 f103:=Tryz.func129.trans (congrArg some (by kernel_rfl))
 f206:=Tryz.func42.trans (congrArg some (by kernel_rfl))
 f210:=Tryz.func146.trans (congrArg some (by kernel_rfl))
 t3:=Tryz.underlying3
 a3:=Tryz.isAgg3
 z3:=Tryz.sizeOf3
 v3:=Tryz.zeroValue3
 t4:=Tryz.underlying4
 a4:=Tryz.isAgg4
 z4:=Tryz.sizeOf4
 v4:=Tryz.zeroValue4
 t9:=Tryz.underlying9
 a9:=Tryz.isAgg9
 z9:=Tryz.sizeOf9
 v9:=Tryz.zeroValue9
 t24:=Tryz.underlying189
 a24:=Tryz.isAgg189
 z24:=Tryz.sizeOf189
 v24:=Tryz.zeroValue189 }
open Go.RowKit in
theorem Tryz.strings_CutPrefix(s p:ByteArray)(w:World) :
  Calls Tryz.prog 129 #[.string s,.string p] w fun e w'=>e=.returned (.tuple #[.string ⟨(Lib.trimPrefix s.data.toList p.data.toList).toArray⟩,.bool (Lib.hasPrefix s.data.toList p.data.toList)])/\w'=w:=Any.strings_CutPrefix Tryz.lays103 s p w
def Tryz.laysM171_ren:Go.Shelf.Ren:=⟨fun|171=>143|243=>161|246=>176|283=>189|284=>190|285=>191|286=>192|129=>209|317=>208|318=>210|319=>211|320=>212|337=>221|338=>222|n=>n,fun|3=>3|9=>9|2=>2|4=>4|171=>244|0=>0|53=>130|37=>46|5=>5|173=>247|212=>264|51=>43|20=>20|213=>265|46=>129|232=>291|233=>292|n=>n,fun|17=>8|18=>10|19=>11|n=>n⟩
theorem Tryz.laysM171:Go.Proofs.LaysM.n171 Tryz.prog Tryz.laysM171_ren:={
 mixed:=by kernel_rfl
 f129:=Tryz.func209.trans (congrArg some (by kernel_rfl))
 f171:=Tryz.func143.trans (congrArg some (by kernel_rfl))
 f243:=Tryz.func161.trans (congrArg some (by kernel_rfl))
 f246:=Tryz.func176.trans (congrArg some (by kernel_rfl))
 f283:=Tryz.func189.trans (congrArg some (by kernel_rfl))
 f284:=Tryz.func190.trans (congrArg some (by kernel_rfl))
 f285:=Tryz.func191.trans (congrArg some (by kernel_rfl))
 f286:=Tryz.func192.trans (congrArg some (by kernel_rfl))
 f317:=Tryz.func208.trans (congrArg some (by kernel_rfl))
 f318:=Tryz.func210.trans (congrArg some (by kernel_rfl))
 f319:=Tryz.func211.trans (congrArg some (by kernel_rfl))
 f320:=Tryz.func212.trans (congrArg some (by kernel_rfl))
 f337:=Tryz.func221.trans (congrArg some (by kernel_rfl))
 f338:=Tryz.func222.trans (congrArg some (by kernel_rfl))
 t0:=Tryz.underlying0
 a0:=Tryz.isAgg0
 z0:=Tryz.sizeOf0
 v0:=Tryz.zeroValue0
 t2:=Tryz.underlying2
 a2:=Tryz.isAgg2
 z2:=Tryz.sizeOf2
 v2:=Tryz.zeroValue2
 t3:=Tryz.underlying3
 a3:=Tryz.isAgg3
 z3:=Tryz.sizeOf3
 v3:=Tryz.zeroValue3
 t4:=Tryz.underlying4
 a4:=Tryz.isAgg4
 z4:=Tryz.sizeOf4
 v4:=Tryz.zeroValue4
 t5:=Tryz.underlying5
 a5:=Tryz.isAgg5
 z5:=Tryz.sizeOf5
 v5:=Tryz.zeroValue5
 t9:=Tryz.underlying9
 a9:=Tryz.isAgg9
 z9:=Tryz.sizeOf9
 v9:=Tryz.zeroValue9
 t20:=Tryz.underlying20
 a20:=Tryz.isAgg20
 z20:=Tryz.sizeOf20
 v20:=Tryz.zeroValue20
 t37:=Tryz.underlying46
 a37:=Tryz.isAgg46
 z37:=Tryz.sizeOf46
 v37:=Tryz.zeroValue46
 t46:=Tryz.underlying129
 a46:=Tryz.isAgg129
 z46:=Tryz.sizeOf129
 v46:=Tryz.zeroValue129
 t51:=Tryz.underlying43
 a51:=Tryz.isAgg43
 z51:=Tryz.sizeOf43
 v51:=Tryz.zeroValue43
 t53:=Tryz.underlying130
 a53:=Tryz.isAgg130
 z53:=Tryz.sizeOf130
 v53:=Tryz.zeroValue130
 t171:=Tryz.underlying244
 a171:=Tryz.isAgg244
 z171:=Tryz.sizeOf244
 v171:=Tryz.zeroValue244
 t173:=Tryz.underlying247
 a173:=Tryz.isAgg247
 z173:=Tryz.sizeOf247
 v173:=Tryz.zeroValue247
 t212:=Tryz.underlying264
 a212:=Tryz.isAgg264
 z212:=Tryz.sizeOf264
 v212:=Tryz.zeroValue264
 t213:=Tryz.underlying265
 a213:=Tryz.isAgg265
 z213:=Tryz.sizeOf265
 t232:=Tryz.underlying291
 a232:=Tryz.isAgg291
 z232:=Tryz.sizeOf291
 v232:=Tryz.zeroValue291
 t233:=Tryz.underlying292
 a233:=Tryz.isAgg292
 z233:=Tryz.sizeOf292
 v233:=Tryz.zeroValue292
 g17:=by kernel_rfl
 g18:=by kernel_rfl
 g19:=by kernel_rfl
 i0:=by kernel_rfl
 i2:=by kernel_rfl
 i3:=by kernel_rfl
 i4:=by kernel_rfl
 i5:=by kernel_rfl
 i9:=by kernel_rfl
 i20:=by kernel_rfl
 i37:=by kernel_rfl
 i46:=by kernel_rfl
 i51:=by kernel_rfl
 i53:=by kernel_rfl
 i171:=by kernel_rfl
 i173:=by kernel_rfl
 i212:=by kernel_rfl
 i232:=by kernel_rfl
 i233:=by kernel_rfl
 m17:=by kernel_rfl
 m18:=by kernel_rfl
 m19:=by kernel_rfl }
open Go.RowKit Go.Sort Go.Lib in
theorem Tryz.strconv_Itoa (n : Int) (h0 : -9223372036854775808 <= n) (h1 : n <= 9223372036854775807) (w : World) (htab : Lib.TabIs Tryz.prog w "internal/strconv.uint64pow10" .u64 Lib.pow10Tab) :
    Calls Tryz.prog 143 #[.int .i64 n] w fun e w' => e = .returned (.string ⟨(Lib.itoa n).toArray⟩) /\ ∃ k os, w' = grow (w.drewN k) os := Any.strconv_Itoa Tryz.laysM171 n h0 h1 w htab
def Tryz.laysM316_ren:Go.Shelf.Ren:=⟨fun|316=>124|n=>n,fun|9=>9|3=>3|4=>4|37=>46|0=>0|127=>103|5=>5|n=>n,fun|n=>n⟩
theorem Tryz.laysM316:Go.Proofs.LaysM.n316 Tryz.prog Tryz.laysM316_ren:={
 mixed:=by kernel_rfl
 f316:=Tryz.func124.trans (congrArg some (by kernel_rfl))
 t0:=Tryz.underlying0
 a0:=Tryz.isAgg0
 z0:=Tryz.sizeOf0
 v0:=Tryz.zeroValue0
 t3:=Tryz.underlying3
 a3:=Tryz.isAgg3
 z3:=Tryz.sizeOf3
 v3:=Tryz.zeroValue3
 t4:=Tryz.underlying4
 a4:=Tryz.isAgg4
 z4:=Tryz.sizeOf4
 v4:=Tryz.zeroValue4
 t9:=Tryz.underlying9
 a9:=Tryz.isAgg9
 z9:=Tryz.sizeOf9
 v9:=Tryz.zeroValue9
 t37:=Tryz.underlying46
 a37:=Tryz.isAgg46
 z37:=Tryz.sizeOf46
 v37:=Tryz.zeroValue46
 t127:=Tryz.underlying103
 a127:=Tryz.isAgg103
 z127:=Tryz.sizeOf103
 v127:=Tryz.zeroValue103
 t5:=Tryz.underlying5
 a5:=Tryz.isAgg5
 z5:=Tryz.sizeOf5
 v5:=Tryz.zeroValue5
 i0:=by kernel_rfl
 i3:=by kernel_rfl
 i4:=by kernel_rfl
 i5:=by kernel_rfl
 i9:=by kernel_rfl
 i37:=by kernel_rfl
 i127:=by kernel_rfl }
open Go.RowKit in
theorem Tryz.stringslite_Clone(s:ByteArray)(w:World)(hlim:s.size<=281474976710656) :
  Calls Tryz.prog 124 #[.string s] w fun e w'=>e=.returned (.string s)/\Below w.heap.size w w':=Any.stringslite_Clone Tryz.laysM316 s w hlim
def Tryz.laysC245_ren:Go.Shelf.Ren:=⟨fun|245=>99|279=>118|280=>119|281=>120|282=>121|316=>124|171=>143|205=>142|243=>161|246=>176|283=>189|284=>190|285=>191|286=>192|129=>209|317=>208|318=>210|319=>211|320=>212|337=>221|338=>222|n=>n,fun|9=>9|3=>3|75=>68|167=>181|4=>4|168=>183|210=>210|37=>46|0=>0|127=>103|145=>229|143=>227|2=>2|171=>244|53=>130|5=>5|173=>247|212=>264|51=>43|20=>20|213=>265|46=>129|232=>291|233=>292|80=>72|n=>n,fun|15=>5|16=>6|17=>8|18=>10|19=>11|n=>n⟩
theorem Tryz.laysC245:Go.Proofs.LaysC.n245 Tryz.prog Tryz.laysC245_ren:={
 mixed:=by kernel_rfl
 f129:=Tryz.func209.trans (congrArg some (by kernel_rfl))
 f171:=Tryz.func143.trans (congrArg some (by kernel_rfl))
 f205:=Tryz.func142.trans (congrArg some (by kernel_rfl))
 f243:=Tryz.func161.trans (congrArg some (by kernel_rfl))
 f245:=Tryz.func99.trans (congrArg some (by kernel_rfl))
 f246:=Tryz.func176.trans (congrArg some (by kernel_rfl))
 f279:=Tryz.func118.trans (congrArg some (by kernel_rfl))
 f280:=Tryz.func119.trans (congrArg some (by kernel_rfl))
 f281:=Tryz.func120.trans (congrArg some (by kernel_rfl))
 f282:=Tryz.func121.trans (congrArg some (by kernel_rfl))
 f283:=Tryz.func189.trans (congrArg some (by kernel_rfl))
 f284:=Tryz.func190.trans (congrArg some (by kernel_rfl))
 f285:=Tryz.func191.trans (congrArg some (by kernel_rfl))
 f286:=Tryz.func192.trans (congrArg some (by kernel_rfl))
 f316:=Tryz.func124.trans (congrArg some (by kernel_rfl))
 f317:=Tryz.func208.trans (congrArg some (by kernel_rfl))
 f318:=Tryz.func210.trans (congrArg some (by kernel_rfl))
 f319:=Tryz.func211.trans (congrArg some (by kernel_rfl))
 f320:=Tryz.func212.trans (congrArg some (by kernel_rfl))
 f337:=Tryz.func221.trans (congrArg some (by kernel_rfl))
 f338:=Tryz.func222.trans (congrArg some (by kernel_rfl))
 t0:=Tryz.underlying0
 a0:=Tryz.isAgg0
 z0:=Tryz.sizeOf0
 v0:=Tryz.zeroValue0
 t2:=Tryz.underlying2
 a2:=Tryz.isAgg2
 z2:=Tryz.sizeOf2
 v2:=Tryz.zeroValue2
 t3:=Tryz.underlying3
 a3:=Tryz.isAgg3
 z3:=Tryz.sizeOf3
 v3:=Tryz.zeroValue3
 t4:=Tryz.underlying4
 a4:=Tryz.isAgg4
 z4:=Tryz.sizeOf4
 v4:=Tryz.zeroValue4
 t5:=Tryz.underlying5
 a5:=Tryz.isAgg5
 z5:=Tryz.sizeOf5
 v5:=Tryz.zeroValue5
 t9:=Tryz.underlying9
 a9:=Tryz.isAgg9
 z9:=Tryz.sizeOf9
 v9:=Tryz.zeroValue9
 t20:=Tryz.underlying20
 a20:=Tryz.isAgg20
 z20:=Tryz.sizeOf20
 v20:=Tryz.zeroValue20
 t37:=Tryz.underlying46
 a37:=Tryz.isAgg46
 z37:=Tryz.sizeOf46
 v37:=Tryz.zeroValue46
 t46:=Tryz.underlying129
 a46:=Tryz.isAgg129
 z46:=Tryz.sizeOf129
 v46:=Tryz.zeroValue129
 t51:=Tryz.underlying43
 a51:=Tryz.isAgg43
 z51:=Tryz.sizeOf43
 v51:=Tryz.zeroValue43
 t53:=Tryz.underlying130
 a53:=Tryz.isAgg130
 z53:=Tryz.sizeOf130
 v53:=Tryz.zeroValue130
 t75:=Tryz.underlying68
 a75:=Tryz.isAgg68
 z75:=Tryz.sizeOf68
 v75:=Tryz.zeroValue68
 t127:=Tryz.underlying103
 a127:=Tryz.isAgg103
 z127:=Tryz.sizeOf103
 v127:=Tryz.zeroValue103
 t143:=Tryz.underlying227
 a143:=Tryz.isAgg227
 z143:=Tryz.sizeOf227
 v143:=Tryz.zeroValue227
 t145:=Tryz.underlying229
 a145:=Tryz.isAgg229
 z145:=Tryz.sizeOf229
 v145:=Tryz.zeroValue229
 t167:=Tryz.underlying181
 a167:=Tryz.isAgg181
 z167:=Tryz.sizeOf181
 v167:=Tryz.zeroValue181
 t168:=Tryz.underlying183
 a168:=Tryz.isAgg183
 z168:=Tryz.sizeOf183
 v168:=Tryz.zeroValue183
 t171:=Tryz.underlying244
 a171:=Tryz.isAgg244
 z171:=Tryz.sizeOf244
 v171:=Tryz.zeroValue244
 t173:=Tryz.underlying247
 a173:=Tryz.isAgg247
 z173:=Tryz.sizeOf247
 v173:=Tryz.zeroValue247
 t210:=Tryz.underlying210
 a210:=Tryz.isAgg210
 z210:=Tryz.sizeOf210
 v210:=Tryz.zeroValue210
 t212:=Tryz.underlying264
 a212:=Tryz.isAgg264
 z212:=Tryz.sizeOf264
 v212:=Tryz.zeroValue264
 t213:=Tryz.underlying265
 a213:=Tryz.isAgg265
 z213:=Tryz.sizeOf265
 t232:=Tryz.underlying291
 a232:=Tryz.isAgg291
 z232:=Tryz.sizeOf291
 v232:=Tryz.zeroValue291
 t233:=Tryz.underlying292
 a233:=Tryz.isAgg292
 z233:=Tryz.sizeOf292
 v233:=Tryz.zeroValue292
 g15:=by kernel_rfl
 g16:=by kernel_rfl
 g17:=by kernel_rfl
 g18:=by kernel_rfl
 g19:=by kernel_rfl
 t80:=Tryz.underlying72
 a80:=Tryz.isAgg72
 z80:=Tryz.sizeOf72
 v80:=Tryz.zeroValue72
 i0:=by kernel_rfl
 i2:=by kernel_rfl
 i3:=by kernel_rfl
 i4:=by kernel_rfl
 i5:=by kernel_rfl
 i9:=by kernel_rfl
 i20:=by kernel_rfl
 i37:=by kernel_rfl
 i46:=by kernel_rfl
 i51:=by kernel_rfl
 i53:=by kernel_rfl
 i75:=by kernel_rfl
 i80:=by kernel_rfl
 i127:=by kernel_rfl
 i143:=by kernel_rfl
 i145:=by kernel_rfl
 i167:=by kernel_rfl
 i168:=by kernel_rfl
 i171:=by kernel_rfl
 i173:=by kernel_rfl
 i210:=by kernel_rfl
 i212:=by kernel_rfl
 i232:=by kernel_rfl
 i233:=by kernel_rfl
 m15:=by kernel_rfl
 m16:=by kernel_rfl
 m17:=by kernel_rfl
 m18:=by kernel_rfl
 m19:=by kernel_rfl
 c0:=by kernel_rfl
 c2:=by kernel_rfl
 c3:=by kernel_rfl
 c4:=by kernel_rfl
 c5:=by kernel_rfl
 c9:=by kernel_rfl
 c20:=by kernel_rfl
 c37:=by kernel_rfl
 c46:=by kernel_rfl
 c51:=by kernel_rfl
 c53:=by kernel_rfl
 c75:=by kernel_rfl
 c80:=by kernel_rfl
 c127:=by kernel_rfl
 c143:=by kernel_rfl
 c145:=by kernel_rfl
 c167:=by kernel_rfl
 c168:=by kernel_rfl
 c171:=by kernel_rfl
 c173:=by kernel_rfl
 c210:=by kernel_rfl
 c212:=by kernel_rfl
 c213:=by kernel_rfl
 c232:=by kernel_rfl
 c233:=by kernel_rfl }
open Go.RowKit in
theorem Tryz.strconv_toError_syntax(fn s:ByteArray)(base bits:Int)(ev:Value)(w:World)(hlim:s.size<=281474976710656)(hv:w.cell? ⟨5,0,none⟩=some ev)(hev:ev=.nilIface∨∃te pe,ev=.iface te pe) :
  Calls Tryz.prog 99 #[.string fn,.string s,.int .i64 base,.int .i64 bits,.iface 181 (.int .i64 2)] w fun e w'=>∃N,e=.returned (.iface 183 (.pointer (some ⟨N,0,none⟩)))/\w.heap.size<=N/\w'.heap[N]?=some (.cells #[.string fn,.string s,ev] 210 (0,0))/\Below w.heap.size w w':=Any.strconv_toError_syntax Tryz.laysC245 fn s base bits ev w hlim hv hev
def Tryz.lays321_ren:Go.Shelf.Ren:=⟨fun|321=>116|n=>n,fun|5=>5|n=>n,fun|n=>n⟩
theorem Tryz.lays321:Go.Proofs.Lays.n321 Tryz.prog Tryz.lays321_ren:={
 mixed:=by kernel_rfl
 f321:=Tryz.func116.trans (congrArg some (by kernel_rfl))
 t5:=Tryz.underlying5
 a5:=Tryz.isAgg5
 z5:=Tryz.sizeOf5
 v5:=Tryz.zeroValue5 }
open Go.RowKit in
theorem Tryz.internal_strconv_lower(c:Int)(w:World) :
  Calls Tryz.prog 116 #[.int .u8 c] w fun e w'=>e=.returned (.int .u8 (bits .or .u8 c 32))/\w'=w:=Any.internal_strconv_lower Tryz.lays321 c w
open Go.RowKit in
theorem Tryz.strconv_toError_range(fn s:ByteArray)(base bits:Int)(ev:Value)(w:World)(hlim:s.size<=281474976710656)(hv:w.cell? ⟨6,0,none⟩=some ev)(hev:ev=.nilIface∨∃te pe,ev=.iface te pe) :
  Calls Tryz.prog 99 #[.string fn,.string s,.int .i64 base,.int .i64 bits,.iface 181 (.int .i64 1)] w fun e w'=>∃N,e=.returned (.iface 183 (.pointer (some ⟨N,0,none⟩)))/\w.heap.size<=N/\w'.heap[N]?=some (.cells #[.string fn,.string s,ev] 210 (0,0))/\Below w.heap.size w w':=Any.strconv_toError_range Tryz.laysC245 fn s base bits ev w hlim hv hev
def Tryz.laysC172_ren:Go.Shelf.Ren:=⟨fun|172=>178|244=>195|245=>99|247=>214|279=>118|280=>119|281=>120|282=>121|287=>98|316=>124|171=>143|205=>142|321=>116|322=>117|243=>161|246=>176|283=>189|284=>190|285=>191|286=>192|129=>209|317=>208|318=>210|319=>211|320=>212|337=>221|338=>222|n=>n,fun|9=>9|3=>3|75=>68|76=>69|4=>4|5=>5|167=>181|37=>46|0=>0|85=>273|2=>2|168=>183|53=>130|175=>131|46=>129|210=>210|127=>103|145=>229|143=>227|21=>21|171=>244|173=>247|212=>264|51=>43|20=>20|213=>265|232=>291|233=>292|80=>72|n=>n,fun|15=>5|16=>6|17=>8|18=>10|19=>11|n=>n⟩
theorem Tryz.laysC172:Go.Proofs.LaysC.n172 Tryz.prog Tryz.laysC172_ren:={
 mixed:=by kernel_rfl
 f129:=Tryz.func209.trans (congrArg some (by kernel_rfl))
 f171:=Tryz.func143.trans (congrArg some (by kernel_rfl))
 f172:=Tryz.func178.trans (congrArg some (by kernel_rfl))
 f205:=Tryz.func142.trans (congrArg some (by kernel_rfl))
 f243:=Tryz.func161.trans (congrArg some (by kernel_rfl))
 f244:=Tryz.func195.trans (congrArg some (by kernel_rfl))
 f245:=Tryz.func99.trans (congrArg some (by kernel_rfl))
 f246:=Tryz.func176.trans (congrArg some (by kernel_rfl))
 f247:=Tryz.func214.trans (congrArg some (by kernel_rfl))
 f279:=Tryz.func118.trans (congrArg some (by kernel_rfl))
 f280:=Tryz.func119.trans (congrArg some (by kernel_rfl))
 f281:=Tryz.func120.trans (congrArg some (by kernel_rfl))
 f282:=Tryz.func121.trans (congrArg some (by kernel_rfl))
 f283:=Tryz.func189.trans (congrArg some (by kernel_rfl))
 f284:=Tryz.func190.trans (congrArg some (by kernel_rfl))
 f285:=Tryz.func191.trans (congrArg some (by kernel_rfl))
 f286:=Tryz.func192.trans (congrArg some (by kernel_rfl))
 f287:=Tryz.func98.trans (congrArg some (by kernel_rfl))
 f316:=Tryz.func124.trans (congrArg some (by kernel_rfl))
 f317:=Tryz.func208.trans (congrArg some (by kernel_rfl))
 f318:=Tryz.func210.trans (congrArg some (by kernel_rfl))
 f319:=Tryz.func211.trans (congrArg some (by kernel_rfl))
 f320:=Tryz.func212.trans (congrArg some (by kernel_rfl))
 f321:=Tryz.func116.trans (congrArg some (by kernel_rfl))
 f322:=Tryz.func117.trans (congrArg some (by kernel_rfl))
 f337:=Tryz.func221.trans (congrArg some (by kernel_rfl))
 f338:=Tryz.func222.trans (congrArg some (by kernel_rfl))
 t0:=Tryz.underlying0
 a0:=Tryz.isAgg0
 z0:=Tryz.sizeOf0
 v0:=Tryz.zeroValue0
 t2:=Tryz.underlying2
 a2:=Tryz.isAgg2
 z2:=Tryz.sizeOf2
 v2:=Tryz.zeroValue2
 t3:=Tryz.underlying3
 a3:=Tryz.isAgg3
 z3:=Tryz.sizeOf3
 v3:=Tryz.zeroValue3
 t4:=Tryz.underlying4
 a4:=Tryz.isAgg4
 z4:=Tryz.sizeOf4
 v4:=Tryz.zeroValue4
 t5:=Tryz.underlying5
 a5:=Tryz.isAgg5
 z5:=Tryz.sizeOf5
 v5:=Tryz.zeroValue5
 t9:=Tryz.underlying9
 a9:=Tryz.isAgg9
 z9:=Tryz.sizeOf9
 v9:=Tryz.zeroValue9
 t20:=Tryz.underlying20
 a20:=Tryz.isAgg20
 z20:=Tryz.sizeOf20
 v20:=Tryz.zeroValue20
 t21:=Tryz.underlying21
 a21:=Tryz.isAgg21
 z21:=Tryz.sizeOf21
 v21:=Tryz.zeroValue21
 t37:=Tryz.underlying46
 a37:=Tryz.isAgg46
 z37:=Tryz.sizeOf46
 v37:=Tryz.zeroValue46
 t46:=Tryz.underlying129
 a46:=Tryz.isAgg129
 z46:=Tryz.sizeOf129
 v46:=Tryz.zeroValue129
 t51:=Tryz.underlying43
 a51:=Tryz.isAgg43
 z51:=Tryz.sizeOf43
 v51:=Tryz.zeroValue43
 t53:=Tryz.underlying130
 a53:=Tryz.isAgg130
 z53:=Tryz.sizeOf130
 v53:=Tryz.zeroValue130
 t75:=Tryz.underlying68
 a75:=Tryz.isAgg68
 z75:=Tryz.sizeOf68
 v75:=Tryz.zeroValue68
 t76:=Tryz.underlying69
 a76:=Tryz.isAgg69
 z76:=Tryz.sizeOf69
 v76:=Tryz.zeroValue69
 t85:=Tryz.underlying273
 a85:=Tryz.isAgg273
 z85:=Tryz.sizeOf273
 v85:=Tryz.zeroValue273
 t127:=Tryz.underlying103
 a127:=Tryz.isAgg103
 z127:=Tryz.sizeOf103
 v127:=Tryz.zeroValue103
 t143:=Tryz.underlying227
 a143:=Tryz.isAgg227
 z143:=Tryz.sizeOf227
 v143:=Tryz.zeroValue227
 t145:=Tryz.underlying229
 a145:=Tryz.isAgg229
 z145:=Tryz.sizeOf229
 v145:=Tryz.zeroValue229
 t167:=Tryz.underlying181
 a167:=Tryz.isAgg181
 z167:=Tryz.sizeOf181
 v167:=Tryz.zeroValue181
 t168:=Tryz.underlying183
 a168:=Tryz.isAgg183
 z168:=Tryz.sizeOf183
 v168:=Tryz.zeroValue183
 t171:=Tryz.underlying244
 a171:=Tryz.isAgg244
 z171:=Tryz.sizeOf244
 v171:=Tryz.zeroValue244
 t173:=Tryz.underlying247
 a173:=Tryz.isAgg247
 z173:=Tryz.sizeOf247
 v173:=Tryz.zeroValue247
 t175:=Tryz.underlying131
 a175:=Tryz.isAgg131
 z175:=Tryz.sizeOf131
 v175:=Tryz.zeroValue131
 t210:=Tryz.underlying210
 a210:=Tryz.isAgg210
 z210:=Tryz.sizeOf210
 v210:=Tryz.zeroValue210
 t212:=Tryz.underlying264
 a212:=Tryz.isAgg264
 z212:=Tryz.sizeOf264
 v212:=Tryz.zeroValue264
 t213:=Tryz.underlying265
 a213:=Tryz.isAgg265
 z213:=Tryz.sizeOf265
 t232:=Tryz.underlying291
 a232:=Tryz.isAgg291
 z232:=Tryz.sizeOf291
 v232:=Tryz.zeroValue291
 t233:=Tryz.underlying292
 a233:=Tryz.isAgg292
 z233:=Tryz.sizeOf292
 v233:=Tryz.zeroValue292
 g15:=by kernel_rfl
 g16:=by kernel_rfl
 g17:=by kernel_rfl
 g18:=by kernel_rfl
 g19:=by kernel_rfl
 t80:=Tryz.underlying72
 a80:=Tryz.isAgg72
 z80:=Tryz.sizeOf72
 v80:=Tryz.zeroValue72
 i0:=by kernel_rfl
 i2:=by kernel_rfl
 i3:=by kernel_rfl
 i4:=by kernel_rfl
 i5:=by kernel_rfl
 i9:=by kernel_rfl
 i20:=by kernel_rfl
 i21:=by kernel_rfl
 i37:=by kernel_rfl
 i46:=by kernel_rfl
 i51:=by kernel_rfl
 i53:=by kernel_rfl
 i75:=by kernel_rfl
 i76:=by kernel_rfl
 i80:=by kernel_rfl
 i85:=by kernel_rfl
 i127:=by kernel_rfl
 i143:=by kernel_rfl
 i145:=by kernel_rfl
 i167:=by kernel_rfl
 i168:=by kernel_rfl
 i171:=by kernel_rfl
 i173:=by kernel_rfl
 i175:=by kernel_rfl
 i210:=by kernel_rfl
 i212:=by kernel_rfl
 i232:=by kernel_rfl
 i233:=by kernel_rfl
 m15:=by kernel_rfl
 m16:=by kernel_rfl
 m17:=by kernel_rfl
 m18:=by kernel_rfl
 m19:=by kernel_rfl
 c0:=by kernel_rfl
 c2:=by kernel_rfl
 c3:=by kernel_rfl
 c4:=by kernel_rfl
 c5:=by kernel_rfl
 c9:=by kernel_rfl
 c20:=by kernel_rfl
 c21:=by kernel_rfl
 c37:=by kernel_rfl
 c46:=by kernel_rfl
 c51:=by kernel_rfl
 c53:=by kernel_rfl
 c75:=by kernel_rfl
 c76:=by kernel_rfl
 c80:=by kernel_rfl
 c85:=by kernel_rfl
 c127:=by kernel_rfl
 c143:=by kernel_rfl
 c145:=by kernel_rfl
 c167:=by kernel_rfl
 c168:=by kernel_rfl
 c171:=by kernel_rfl
 c173:=by kernel_rfl
 c175:=by kernel_rfl
 c210:=by kernel_rfl
 c212:=by kernel_rfl
 c213:=by kernel_rfl
 c232:=by kernel_rfl
 c233:=by kernel_rfl }
open Go.RowKit in
theorem Tryz.strconv_Atoi_ok(s:ByteArray)(hmax:s.size<=9223372036854775806)(v:Int)(h:Lib.atoiAll s.data.toList=.ok v)(w:World) :
  Calls Tryz.prog 178 #[.string s] w fun e w'=>e=.returned (.tuple #[.int .i64 v,.nilIface])/\(w'=w∨∃t,w'=Lib.bytesWorld w 5 t):=Any.strconv_Atoi_ok Tryz.laysC172 s hmax v h w
open Go.RowKit in
theorem Tryz.strconv_Atoi_syntax_var (s : ByteArray) (hlim : s.size <= 281474976710656) (h : Lib.atoiAll s.data.toList = .«syntax») (tp : TypeId) (p : Value) (w : World) (hvar : w.var? Tryz.prog "strconv.ErrSyntax" = some #[.iface tp p]) :
    Calls Tryz.prog 178 #[.string s] w fun e w' => ∃ N, e = .returned (.tuple #[.int .i64 0, .iface 183 (.pointer (some ⟨N, 0, none⟩))]) /\ w.heap.size <= N /\ w'.heap[N]? = some (.cells #[.string ⟨#[65, 116, 111, 105]⟩, .string s, .iface tp p] 210 (0, 0)) /\ Below w.heap.size w w' := Any.strconv_Atoi_syntax_var Tryz.laysC172 s hlim h tp p w hvar
open Go.RowKit in
theorem Tryz.strconv_Atoi_range_var (s : ByteArray) (hlim : s.size <= 281474976710656) (h : Lib.atoiAll s.data.toList = .range) (tp : TypeId) (p : Value) (w : World) (hvar : w.var? Tryz.prog "strconv.ErrRange" = some #[.iface tp p]) :
    Calls Tryz.prog 178 #[.string s] w fun e w' => ∃ N, e = .returned (.tuple #[.int .i64 (Lib.atoiSat s.data.toList), .iface 183 (.pointer (some ⟨N, 0, none⟩))]) /\ w.heap.size <= N /\ w'.heap[N]? = some (.cells #[.string ⟨#[65, 116, 111, 105]⟩, .string s, .iface tp p] 210 (0, 0)) /\ Below w.heap.size w w' := Any.strconv_Atoi_range_var Tryz.laysC172 s hlim h tp p w hvar
def Tryz.laysPu14_ren:Go.Shelf.Ren:=⟨fun|14=>78|16=>98|17=>99|19=>116|20=>117|21=>118|22=>119|23=>120|24=>121|25=>124|27=>143|26=>142|28=>161|29=>176|30=>189|31=>190|32=>191|33=>192|35=>209|34=>208|36=>210|37=>211|38=>212|39=>221|40=>222|n=>n,fun|9=>9|3=>3|22=>130|24=>68|25=>131|4=>4|34=>181|5=>5|36=>129|37=>46|0=>0|39=>183|21=>21|44=>210|47=>103|50=>229|48=>227|2=>2|52=>244|55=>247|59=>264|60=>43|20=>20|61=>265|65=>291|66=>292|67=>72|n=>n,fun|0=>5|1=>6|2=>8|3=>10|4=>11|n=>n⟩
theorem Tryz.laysPu14:Go.Proofs.LaysPu.n14 Tryz.prog Tryz.laysPu14_ren:={
 mixed:=by kernel_rfl
 f14:=Tryz.func78.trans (congrArg some (by kernel_rfl))
 f16:=Tryz.func98.trans (congrArg some (by kernel_rfl))
 f17:=Tryz.func99.trans (congrArg some (by kernel_rfl))
 f19:=Tryz.func116.trans (congrArg some (by kernel_rfl))
 f20:=Tryz.func117.trans (congrArg some (by kernel_rfl))
 f21:=Tryz.func118.trans (congrArg some (by kernel_rfl))
 f22:=Tryz.func119.trans (congrArg some (by kernel_rfl))
 f23:=Tryz.func120.trans (congrArg some (by kernel_rfl))
 f24:=Tryz.func121.trans (congrArg some (by kernel_rfl))
 f25:=Tryz.func124.trans (congrArg some (by kernel_rfl))
 f26:=Tryz.func142.trans (congrArg some (by kernel_rfl))
 f27:=Tryz.func143.trans (congrArg some (by kernel_rfl))
 f28:=Tryz.func161.trans (congrArg some (by kernel_rfl))
 f29:=Tryz.func176.trans (congrArg some (by kernel_rfl))
 f30:=Tryz.func189.trans (congrArg some (by kernel_rfl))
 f31:=Tryz.func190.trans (congrArg some (by kernel_rfl))
 f32:=Tryz.func191.trans (congrArg some (by kernel_rfl))
 f33:=Tryz.func192.trans (congrArg some (by kernel_rfl))
 f34:=Tryz.func208.trans (congrArg some (by kernel_rfl))
 f35:=Tryz.func209.trans (congrArg some (by kernel_rfl))
 f36:=Tryz.func210.trans (congrArg some (by kernel_rfl))
 f37:=Tryz.func211.trans (congrArg some (by kernel_rfl))
 f38:=Tryz.func212.trans (congrArg some (by kernel_rfl))
 f39:=Tryz.func221.trans (congrArg some (by kernel_rfl))
 f40:=Tryz.func222.trans (congrArg some (by kernel_rfl))
 t0:=Tryz.underlying0
 a0:=Tryz.isAgg0
 z0:=Tryz.sizeOf0
 v0:=Tryz.zeroValue0
 i0:=by kernel_rfl
 t2:=Tryz.underlying2
 a2:=Tryz.isAgg2
 z2:=Tryz.sizeOf2
 v2:=Tryz.zeroValue2
 i2:=by kernel_rfl
 t3:=Tryz.underlying3
 a3:=Tryz.isAgg3
 z3:=Tryz.sizeOf3
 v3:=Tryz.zeroValue3
 i3:=by kernel_rfl
 t4:=Tryz.underlying4
 a4:=Tryz.isAgg4
 z4:=Tryz.sizeOf4
 v4:=Tryz.zeroValue4
 i4:=by kernel_rfl
 t5:=Tryz.underlying5
 a5:=Tryz.isAgg5
 z5:=Tryz.sizeOf5
 v5:=Tryz.zeroValue5
 i5:=by kernel_rfl
 t9:=Tryz.underlying9
 a9:=Tryz.isAgg9
 z9:=Tryz.sizeOf9
 v9:=Tryz.zeroValue9
 i9:=by kernel_rfl
 t20:=Tryz.underlying20
 a20:=Tryz.isAgg20
 z20:=Tryz.sizeOf20
 v20:=Tryz.zeroValue20
 i20:=by kernel_rfl
 t21:=Tryz.underlying21
 a21:=Tryz.isAgg21
 z21:=Tryz.sizeOf21
 v21:=Tryz.zeroValue21
 i21:=by kernel_rfl
 t22:=Tryz.underlying130
 a22:=Tryz.isAgg130
 z22:=Tryz.sizeOf130
 v22:=Tryz.zeroValue130
 i22:=by kernel_rfl
 t24:=Tryz.underlying68
 a24:=Tryz.isAgg68
 z24:=Tryz.sizeOf68
 v24:=Tryz.zeroValue68
 i24:=by kernel_rfl
 t25:=Tryz.underlying131
 a25:=Tryz.isAgg131
 z25:=Tryz.sizeOf131
 v25:=Tryz.zeroValue131
 i25:=by kernel_rfl
 t34:=Tryz.underlying181
 a34:=Tryz.isAgg181
 z34:=Tryz.sizeOf181
 v34:=Tryz.zeroValue181
 i34:=by kernel_rfl
 c34:=by kernel_rfl
 t36:=Tryz.underlying129
 a36:=Tryz.isAgg129
 z36:=Tryz.sizeOf129
 v36:=Tryz.zeroValue129
 i36:=by kernel_rfl
 t37:=Tryz.underlying46
 a37:=Tryz.isAgg46
 z37:=Tryz.sizeOf46
 v37:=Tryz.zeroValue46
 i37:=by kernel_rfl
 t39:=Tryz.underlying183
 a39:=Tryz.isAgg183
 z39:=Tryz.sizeOf183
 v39:=Tryz.zeroValue183
 i39:=by kernel_rfl
 t44:=Tryz.underlying210
 a44:=Tryz.isAgg210
 z44:=Tryz.sizeOf210
 v44:=Tryz.zeroValue210
 i44:=by kernel_rfl
 t47:=Tryz.underlying103
 a47:=Tryz.isAgg103
 z47:=Tryz.sizeOf103
 v47:=Tryz.zeroValue103
 i47:=by kernel_rfl
 t48:=Tryz.underlying227
 a48:=Tryz.isAgg227
 z48:=Tryz.sizeOf227
 v48:=Tryz.zeroValue227
 i48:=by kernel_rfl
 t50:=Tryz.underlying229
 a50:=Tryz.isAgg229
 z50:=Tryz.sizeOf229
 v50:=Tryz.zeroValue229
 i50:=by kernel_rfl
 t52:=Tryz.underlying244
 a52:=Tryz.isAgg244
 z52:=Tryz.sizeOf244
 v52:=Tryz.zeroValue244
 i52:=by kernel_rfl
 t55:=Tryz.underlying247
 a55:=Tryz.isAgg247
 z55:=Tryz.sizeOf247
 v55:=Tryz.zeroValue247
 i55:=by kernel_rfl
 t59:=Tryz.underlying264
 a59:=Tryz.isAgg264
 z59:=Tryz.sizeOf264
 v59:=Tryz.zeroValue264
 i59:=by kernel_rfl
 t60:=Tryz.underlying43
 a60:=Tryz.isAgg43
 z60:=Tryz.sizeOf43
 v60:=Tryz.zeroValue43
 i60:=by kernel_rfl
 t61:=Tryz.underlying265
 a61:=Tryz.isAgg265
 z61:=Tryz.sizeOf265
 t65:=Tryz.underlying291
 a65:=Tryz.isAgg291
 z65:=Tryz.sizeOf291
 v65:=Tryz.zeroValue291
 i65:=by kernel_rfl
 t66:=Tryz.underlying292
 a66:=Tryz.isAgg292
 z66:=Tryz.sizeOf292
 v66:=Tryz.zeroValue292
 i66:=by kernel_rfl
 t67:=Tryz.underlying72
 a67:=Tryz.isAgg72
 z67:=Tryz.sizeOf72
 v67:=Tryz.zeroValue72
 i67:=by kernel_rfl
 g0:=by kernel_rfl
 m0:=by kernel_rfl
 g1:=by kernel_rfl
 m1:=by kernel_rfl
 g2:=by kernel_rfl
 m2:=by kernel_rfl
 g3:=by kernel_rfl
 m3:=by kernel_rfl
 g4:=by kernel_rfl
 m4:=by kernel_rfl }
open Go.RowKit in
theorem Tryz.strconv_ParseUint_10_at32_ok(s:ByteArray)(hmax:s.size<=9223372036854775806)(u:Nat)(h:Lib.parseUintB 32 s.data.toList=.ok u)(w:World) :
  Calls Tryz.prog 78 #[.string s,.int .i64 10,.int .i64 32] w fun e w'=>e=.returned (.tuple #[.int .u64 u,.nilIface])/\(w'=w∨w'=Lib.bytesWorld w 5 s):=Any.strconv_ParseUint_10_at32_ok Tryz.laysPu14 s hmax u h w
open Go.RowKit in
theorem Tryz.strconv_ParseUint_10_at8_ok(s:ByteArray)(hmax:s.size<=9223372036854775806)(u:Nat)(h:Lib.parseUintB 8 s.data.toList=.ok u)(w:World) :
  Calls Tryz.prog 78 #[.string s,.int .i64 10,.int .i64 8] w fun e w'=>e=.returned (.tuple #[.int .u64 u,.nilIface])/\(w'=w∨w'=Lib.bytesWorld w 5 s):=Any.strconv_ParseUint_10_at8_ok Tryz.laysPu14 s hmax u h w
open Go.RowKit in
theorem Tryz.strconv_ParseUint_10_at32_syntax_var (s : ByteArray) (hlim : s.size <= 281474976710656) (h : Lib.parseUintB 32 s.data.toList = .«syntax») (tp : TypeId) (p : Value) (w : World) (hvar : w.var? Tryz.prog "strconv.ErrSyntax" = some #[.iface tp p]) :
    Calls Tryz.prog 78 #[.string s, .int .i64 10, .int .i64 32] w fun e w' => ∃ N, e = .returned (.tuple #[.int .u64 0, .iface 183 (.pointer (some ⟨N, 0, none⟩))]) /\ w.heap.size <= N /\ w'.heap[N]? = some (.cells #[.string ⟨#[80, 97, 114, 115, 101, 85, 105, 110, 116]⟩, .string s, .iface tp p] 210 (0, 0)) /\ Below w.heap.size w w' := Any.strconv_ParseUint_10_at32_syntax_var Tryz.laysPu14 s hlim h tp p w hvar
open Go.RowKit in
theorem Tryz.strconv_ParseUint_10_at32_range_var (s : ByteArray) (hlim : s.size <= 281474976710656) (h : Lib.parseUintB 32 s.data.toList = .range) (tp : TypeId) (p : Value) (w : World) (hvar : w.var? Tryz.prog "strconv.ErrRange" = some #[.iface tp p]) :
    Calls Tryz.prog 78 #[.string s, .int .i64 10, .int .i64 32] w fun e w' => ∃ N, e = .returned (.tuple #[.int .u64 4294967295, .iface 183 (.pointer (some ⟨N, 0, none⟩))]) /\ w.heap.size <= N /\ w'.heap[N]? = some (.cells #[.string ⟨#[80, 97, 114, 115, 101, 85, 105, 110, 116]⟩, .string s, .iface tp p] 210 (0, 0)) /\ Below w.heap.size w w' := Any.strconv_ParseUint_10_at32_range_var Tryz.laysPu14 s hlim h tp p w hvar
open Go.RowKit in
theorem Tryz.strconv_ParseUint_10_at8_syntax_var (s : ByteArray) (hlim : s.size <= 281474976710656) (h : Lib.parseUintB 8 s.data.toList = .«syntax») (tp : TypeId) (p : Value) (w : World) (hvar : w.var? Tryz.prog "strconv.ErrSyntax" = some #[.iface tp p]) :
    Calls Tryz.prog 78 #[.string s, .int .i64 10, .int .i64 8] w fun e w' => ∃ N, e = .returned (.tuple #[.int .u64 0, .iface 183 (.pointer (some ⟨N, 0, none⟩))]) /\ w.heap.size <= N /\ w'.heap[N]? = some (.cells #[.string ⟨#[80, 97, 114, 115, 101, 85, 105, 110, 116]⟩, .string s, .iface tp p] 210 (0, 0)) /\ Below w.heap.size w w' := Any.strconv_ParseUint_10_at8_syntax_var Tryz.laysPu14 s hlim h tp p w hvar
open Go.RowKit in
theorem Tryz.strconv_ParseUint_10_at8_range_var (s : ByteArray) (hlim : s.size <= 281474976710656) (h : Lib.parseUintB 8 s.data.toList = .range) (tp : TypeId) (p : Value) (w : World) (hvar : w.var? Tryz.prog "strconv.ErrRange" = some #[.iface tp p]) :
    Calls Tryz.prog 78 #[.string s, .int .i64 10, .int .i64 8] w fun e w' => ∃ N, e = .returned (.tuple #[.int .u64 255, .iface 183 (.pointer (some ⟨N, 0, none⟩))]) /\ w.heap.size <= N /\ w'.heap[N]? = some (.cells #[.string ⟨#[80, 97, 114, 115, 101, 85, 105, 110, 116]⟩, .string s, .iface tp p] 210 (0, 0)) /\ Below w.heap.size w w' := Any.strconv_ParseUint_10_at8_range_var Tryz.laysPu14 s hlim h tp p w hvar
def Tryz.lays144_ren:Go.Shelf.Ren:=⟨fun|144=>12|143=>27|219=>48|217=>74|225=>75|224=>76|267=>77|266=>96|314=>97|n=>n,fun|9=>9|4=>4|3=>3|5=>5|46=>129|146=>156|51=>43|n=>n,fun|1=>0|n=>n⟩
theorem Tryz.lays144:Go.Proofs.Lays.n144 Tryz.prog Tryz.lays144_ren:={
 mixed:=by kernel_rfl
 f143:=Tryz.func27.trans (congrArg some (by kernel_rfl))
 f144:=Tryz.func12.trans (congrArg some (by kernel_rfl))
 f217:=Tryz.func74.trans (congrArg some (by kernel_rfl))
 f219:=Tryz.func48.trans (congrArg some (by kernel_rfl))
 f224:=Tryz.func76.trans (congrArg some (by kernel_rfl))
 f225:=Tryz.func75.trans (congrArg some (by kernel_rfl))
 f266:=Tryz.func96.trans (congrArg some (by kernel_rfl))
 f267:=Tryz.func77.trans (congrArg some (by kernel_rfl))
 f314:=Tryz.func97.trans (congrArg some (by kernel_rfl))
 t3:=Tryz.underlying3
 a3:=Tryz.isAgg3
 z3:=Tryz.sizeOf3
 v3:=Tryz.zeroValue3
 t4:=Tryz.underlying4
 a4:=Tryz.isAgg4
 z4:=Tryz.sizeOf4
 v4:=Tryz.zeroValue4
 t5:=Tryz.underlying5
 a5:=Tryz.isAgg5
 z5:=Tryz.sizeOf5
 v5:=Tryz.zeroValue5
 t9:=Tryz.underlying9
 a9:=Tryz.isAgg9
 z9:=Tryz.sizeOf9
 v9:=Tryz.zeroValue9
 t46:=Tryz.underlying129
 a46:=Tryz.isAgg129
 z46:=Tryz.sizeOf129
 v46:=Tryz.zeroValue129
 t51:=Tryz.underlying43
 a51:=Tryz.isAgg43
 z51:=Tryz.sizeOf43
 v51:=Tryz.zeroValue43
 t146:=Tryz.underlying156
 a146:=Tryz.isAgg156
 z146:=Tryz.sizeOf156
 v146:=Tryz.zeroValue156
 g1:=by kernel_rfl }
open Go.RowKit Go.Lib in
theorem Tryz.strings_Contains_one(s:ByteArray)(c:UInt8)(w:World) :
  Calls Tryz.prog 12 #[.string s,.string ⟨#[c]⟩] w fun e w'=>e=.returned (.bool (decide (0<=Lib.indexByte s.data.toList c)))/\w'=w:=Any.strings_Contains_one Tryz.lays144 s c w
def Tryz.lays145_ren:Go.Shelf.Ren:=⟨fun|145=>204|220=>220|219=>48|217=>74|225=>75|224=>76|267=>77|266=>96|314=>97|n=>n,fun|9=>9|4=>4|59=>261|3=>3|5=>5|46=>129|146=>156|51=>43|n=>n,fun|1=>0|n=>n⟩
theorem Tryz.lays145:Go.Proofs.Lays.n145 Tryz.prog Tryz.lays145_ren:={
 mixed:=by kernel_rfl
 f145:=Tryz.func204.trans (congrArg some (by kernel_rfl))
 f217:=Tryz.func74.trans (congrArg some (by kernel_rfl))
 f219:=Tryz.func48.trans (congrArg some (by kernel_rfl))
 f220:=Tryz.func220.trans (congrArg some (by kernel_rfl))
 f224:=Tryz.func76.trans (congrArg some (by kernel_rfl))
 f225:=Tryz.func75.trans (congrArg some (by kernel_rfl))
 f266:=Tryz.func96.trans (congrArg some (by kernel_rfl))
 f267:=Tryz.func77.trans (congrArg some (by kernel_rfl))
 f314:=Tryz.func97.trans (congrArg some (by kernel_rfl))
 t3:=Tryz.underlying3
 a3:=Tryz.isAgg3
 z3:=Tryz.sizeOf3
 v3:=Tryz.zeroValue3
 t4:=Tryz.underlying4
 a4:=Tryz.isAgg4
 z4:=Tryz.sizeOf4
 v4:=Tryz.zeroValue4
 t5:=Tryz.underlying5
 a5:=Tryz.isAgg5
 z5:=Tryz.sizeOf5
 v5:=Tryz.zeroValue5
 t9:=Tryz.underlying9
 a9:=Tryz.isAgg9
 z9:=Tryz.sizeOf9
 v9:=Tryz.zeroValue9
 t46:=Tryz.underlying129
 a46:=Tryz.isAgg129
 z46:=Tryz.sizeOf129
 v46:=Tryz.zeroValue129
 t51:=Tryz.underlying43
 a51:=Tryz.isAgg43
 z51:=Tryz.sizeOf43
 v51:=Tryz.zeroValue43
 t59:=Tryz.underlying261
 a59:=Tryz.isAgg261
 z59:=Tryz.sizeOf261
 v59:=Tryz.zeroValue261
 t146:=Tryz.underlying156
 a146:=Tryz.isAgg156
 z146:=Tryz.sizeOf156
 v146:=Tryz.zeroValue156
 g1:=by kernel_rfl }
open Go.RowKit Go.Lib in
theorem Tryz.strings_Cut(s sep:ByteArray)(m:Int)(w:World)(hs:s.size<4294967281)(hm:w.cell? ⟨0,0,none⟩=some (.int .i64 m)) :
  Calls Tryz.prog 204 #[.string s,.string sep] w fun e w'=>e=.returned (.tuple #[.string ⟨(Lib.cut s.data.toList sep.data.toList).1.toArray⟩,.string ⟨(Lib.cut s.data.toList sep.data.toList).2.1.toArray⟩,.bool (Lib.cut s.data.toList sep.data.toList).2.2])/\∃n,w'=w.drewN n:=Any.strings_Cut Tryz.lays145 s sep m w hs hm
def Tryz.lays138_ren:Go.Shelf.Ren:=⟨fun|138=>105|195=>125|218=>126|143=>27|219=>48|217=>74|225=>75|224=>76|267=>77|266=>96|314=>97|n=>n,fun|9=>9|3=>3|4=>4|5=>5|0=>0|46=>129|146=>156|51=>43|n=>n,fun|1=>0|n=>n⟩
theorem Tryz.lays138:Go.Proofs.Lays.n138 Tryz.prog Tryz.lays138_ren:={
 mixed:=by kernel_rfl
 f138:=Tryz.func105.trans (congrArg some (by kernel_rfl))
 f143:=Tryz.func27.trans (congrArg some (by kernel_rfl))
 f195:=Tryz.func125.trans (congrArg some (by kernel_rfl))
 f217:=Tryz.func74.trans (congrArg some (by kernel_rfl))
 f218:=Tryz.func126.trans (congrArg some (by kernel_rfl))
 f219:=Tryz.func48.trans (congrArg some (by kernel_rfl))
 f224:=Tryz.func76.trans (congrArg some (by kernel_rfl))
 f225:=Tryz.func75.trans (congrArg some (by kernel_rfl))
 f266:=Tryz.func96.trans (congrArg some (by kernel_rfl))
 f267:=Tryz.func77.trans (congrArg some (by kernel_rfl))
 f314:=Tryz.func97.trans (congrArg some (by kernel_rfl))
 t0:=Tryz.underlying0
 a0:=Tryz.isAgg0
 z0:=Tryz.sizeOf0
 v0:=Tryz.zeroValue0
 t3:=Tryz.underlying3
 a3:=Tryz.isAgg3
 z3:=Tryz.sizeOf3
 v3:=Tryz.zeroValue3
 t4:=Tryz.underlying4
 a4:=Tryz.isAgg4
 z4:=Tryz.sizeOf4
 v4:=Tryz.zeroValue4
 t5:=Tryz.underlying5
 a5:=Tryz.isAgg5
 z5:=Tryz.sizeOf5
 v5:=Tryz.zeroValue5
 t9:=Tryz.underlying9
 a9:=Tryz.isAgg9
 z9:=Tryz.sizeOf9
 v9:=Tryz.zeroValue9
 t46:=Tryz.underlying129
 a46:=Tryz.isAgg129
 z46:=Tryz.sizeOf129
 v46:=Tryz.zeroValue129
 t51:=Tryz.underlying43
 a51:=Tryz.isAgg43
 z51:=Tryz.sizeOf43
 v51:=Tryz.zeroValue43
 t146:=Tryz.underlying156
 a146:=Tryz.isAgg156
 z146:=Tryz.sizeOf156
 v146:=Tryz.zeroValue156
 g1:=by kernel_rfl }
open Go.RowKit Go.Lib in
theorem Tryz.strings_Count_one(s:ByteArray)(c:UInt8)(w:World) :
  Calls Tryz.prog 105 #[.string s,.string ⟨#[c]⟩] w fun e w'=>e=.returned (.int .i64 (Lib.countByte s.data.toList c))/\w'=w:=Any.strings_Count_one Tryz.lays138 s c w
def Tryz.lays99_ren:Go.Shelf.Ren:=⟨fun|99=>23|206=>42|n=>n,fun|9=>9|4=>4|3=>3|n=>n,fun|n=>n⟩
theorem Tryz.lays99:Go.Proofs.Lays.n99 Tryz.prog Tryz.lays99_ren:={
 mixed:=by kernel_rfl
 f99:=Tryz.func23.trans (congrArg some (by kernel_rfl))
 f206:=Tryz.func42.trans (congrArg some (by kernel_rfl))
 t3:=Tryz.underlying3
 a3:=Tryz.isAgg3
 z3:=Tryz.sizeOf3
 v3:=Tryz.zeroValue3
 t4:=Tryz.underlying4
 a4:=Tryz.isAgg4
 z4:=Tryz.sizeOf4
 v4:=Tryz.zeroValue4
 t9:=Tryz.underlying9
 a9:=Tryz.isAgg9
 z9:=Tryz.sizeOf9
 v9:=Tryz.zeroValue9 }
open Go.RowKit Go.Lib in
theorem Tryz.strings_HasPrefix(s p:ByteArray)(w:World) :
  Calls Tryz.prog 23 #[.string s,.string p] w fun e w'=>e=.returned (.bool (Lib.hasPrefix s.data.toList p.data.toList))/\w'=w:=Any.strings_HasPrefix Tryz.lays99 s p w
def Tryz.lays100_ren:Go.Shelf.Ren:=⟨fun|100=>106|207=>127|n=>n,fun|9=>9|4=>4|3=>3|n=>n,fun|n=>n⟩
theorem Tryz.lays100:Go.Proofs.Lays.n100 Tryz.prog Tryz.lays100_ren:={
 mixed:=by kernel_rfl
 f100:=Tryz.func106.trans (congrArg some (by kernel_rfl))
 f207:=Tryz.func127.trans (congrArg some (by kernel_rfl))
 t3:=Tryz.underlying3
 a3:=Tryz.isAgg3
 z3:=Tryz.sizeOf3
 v3:=Tryz.zeroValue3
 t4:=Tryz.underlying4
 a4:=Tryz.isAgg4
 z4:=Tryz.sizeOf4
 v4:=Tryz.zeroValue4
 t9:=Tryz.underlying9
 a9:=Tryz.isAgg9
 z9:=Tryz.sizeOf9
 v9:=Tryz.zeroValue9 }
open Go.RowKit Go.Lib in
theorem Tryz.strings_HasSuffix(s p:ByteArray)(w:World)(hs:s.size<=9223372036854775807) :
  Calls Tryz.prog 106 #[.string s,.string p] w fun e w'=>e=.returned (.bool (Lib.hasSuffix s.data.toList p.data.toList))/\w'=w:=Any.strings_HasSuffix Tryz.lays100 s p w hs
def Tryz.lays146_ren:Go.Shelf.Ren:=⟨fun|146=>203|221=>219|268=>225|138=>105|143=>27|195=>125|197=>67|218=>126|219=>48|260=>93|217=>74|225=>75|224=>76|267=>77|266=>96|314=>97|n=>n,fun|9=>9|31=>22|3=>3|4=>4|0=>0|105=>119|21=>21|5=>5|46=>129|119=>174|139=>177|138=>176|146=>156|51=>43|n=>n,fun|1=>0|3=>3|4=>4|n=>n⟩
theorem Tryz.lays146:Go.Proofs.Lays.n146 Tryz.prog Tryz.lays146_ren:={
 mixed:=by kernel_rfl
 f138:=Tryz.func105.trans (congrArg some (by kernel_rfl))
 f143:=Tryz.func27.trans (congrArg some (by kernel_rfl))
 f146:=Tryz.func203.trans (congrArg some (by kernel_rfl))
 f195:=Tryz.func125.trans (congrArg some (by kernel_rfl))
 f197:=Tryz.func67.trans (congrArg some (by kernel_rfl))
 f217:=Tryz.func74.trans (congrArg some (by kernel_rfl))
 f218:=Tryz.func126.trans (congrArg some (by kernel_rfl))
 f219:=Tryz.func48.trans (congrArg some (by kernel_rfl))
 f221:=Tryz.func219.trans (congrArg some (by kernel_rfl))
 f224:=Tryz.func76.trans (congrArg some (by kernel_rfl))
 f225:=Tryz.func75.trans (congrArg some (by kernel_rfl))
 f260:=Tryz.func93.trans (congrArg some (by kernel_rfl))
 f266:=Tryz.func96.trans (congrArg some (by kernel_rfl))
 f267:=Tryz.func77.trans (congrArg some (by kernel_rfl))
 f268:=Tryz.func225.trans (congrArg some (by kernel_rfl))
 f314:=Tryz.func97.trans (congrArg some (by kernel_rfl))
 t0:=Tryz.underlying0
 a0:=Tryz.isAgg0
 z0:=Tryz.sizeOf0
 v0:=Tryz.zeroValue0
 t3:=Tryz.underlying3
 a3:=Tryz.isAgg3
 z3:=Tryz.sizeOf3
 v3:=Tryz.zeroValue3
 t4:=Tryz.underlying4
 a4:=Tryz.isAgg4
 z4:=Tryz.sizeOf4
 v4:=Tryz.zeroValue4
 t5:=Tryz.underlying5
 a5:=Tryz.isAgg5
 z5:=Tryz.sizeOf5
 v5:=Tryz.zeroValue5
 t9:=Tryz.underlying9
 a9:=Tryz.isAgg9
 z9:=Tryz.sizeOf9
 v9:=Tryz.zeroValue9
 t21:=Tryz.underlying21
 a21:=Tryz.isAgg21
 z21:=Tryz.sizeOf21
 v21:=Tryz.zeroValue21
 t31:=Tryz.underlying22
 a31:=Tryz.isAgg22
 z31:=Tryz.sizeOf22
 v31:=Tryz.zeroValue22
 t46:=Tryz.underlying129
 a46:=Tryz.isAgg129
 z46:=Tryz.sizeOf129
 v46:=Tryz.zeroValue129
 t51:=Tryz.underlying43
 a51:=Tryz.isAgg43
 z51:=Tryz.sizeOf43
 v51:=Tryz.zeroValue43
 t105:=Tryz.underlying119
 a105:=Tryz.isAgg119
 z105:=Tryz.sizeOf119
 v105:=Tryz.zeroValue119
 t119:=Tryz.underlying174
 a119:=Tryz.isAgg174
 z119:=Tryz.sizeOf174
 t138:=Tryz.underlying176
 a138:=Tryz.isAgg176
 z138:=Tryz.sizeOf176
 v138:=Tryz.zeroValue176
 t139:=Tryz.underlying177
 a139:=Tryz.isAgg177
 z139:=Tryz.sizeOf177
 v139:=Tryz.zeroValue177
 t146:=Tryz.underlying156
 a146:=Tryz.isAgg156
 z146:=Tryz.sizeOf156
 v146:=Tryz.zeroValue156
 g1:=by kernel_rfl
 g3:=by kernel_rfl
 g4:=by kernel_rfl }
open Go.RowKit Go.Lib in
theorem Tryz.strings_Split(s sep:ByteArray)(m:Int)(w:World)(hs:s.size<4294967281)(hm:w.cell? ⟨0,0,none⟩=some (.int .i64 m))(h1:1<=sep.size) :
  Calls Tryz.prog 203 #[.string s,.string sep] w fun e w'=>
   e=.returned (.slice (some ⟨w.heap.size,0,none⟩) (Lib.countB s sep+1) (Lib.countB s sep+1))/\w'=w.alloc (.cells ((Lib.splitB sep 0 (Lib.countB s sep) s).map Value.string).toArray 9):=Any.strings_Split Tryz.lays146 (by kernel_rfl) s sep m w hs hm h1
def Tryz.lays157_ren:Go.Shelf.Ren:=⟨fun|157=>177|229=>193|199=>194|261=>213|311=>223|312=>224|n=>n,fun|9=>9|31=>22|3=>3|5=>5|4=>4|119=>174|0=>0|40=>230|152=>268|21=>21|154=>270|51=>43|141=>272|196=>283|193=>280|198=>285|49=>40|194=>281|201=>288|226=>293|46=>129|227=>294|n=>n,fun|0=>7|6=>9|n=>n⟩
theorem Tryz.lays157:Go.Proofs.Lays.n157 Tryz.prog Tryz.lays157_ren:={
 mixed:=by kernel_rfl
 f157:=Tryz.func177.trans (congrArg some (by kernel_rfl))
 f199:=Tryz.func194.trans (congrArg some (by kernel_rfl))
 f229:=Tryz.func193.trans (congrArg some (by kernel_rfl))
 f261:=Tryz.func213.trans (congrArg some (by kernel_rfl))
 f311:=Tryz.func223.trans (congrArg some (by kernel_rfl))
 f312:=Tryz.func224.trans (congrArg some (by kernel_rfl))
 t0:=Tryz.underlying0
 a0:=Tryz.isAgg0
 z0:=Tryz.sizeOf0
 v0:=Tryz.zeroValue0
 t3:=Tryz.underlying3
 a3:=Tryz.isAgg3
 z3:=Tryz.sizeOf3
 v3:=Tryz.zeroValue3
 t4:=Tryz.underlying4
 a4:=Tryz.isAgg4
 z4:=Tryz.sizeOf4
 v4:=Tryz.zeroValue4
 t5:=Tryz.underlying5
 a5:=Tryz.isAgg5
 z5:=Tryz.sizeOf5
 v5:=Tryz.zeroValue5
 t9:=Tryz.underlying9
 a9:=Tryz.isAgg9
 z9:=Tryz.sizeOf9
 v9:=Tryz.zeroValue9
 t21:=Tryz.underlying21
 a21:=Tryz.isAgg21
 z21:=Tryz.sizeOf21
 v21:=Tryz.zeroValue21
 t31:=Tryz.underlying22
 a31:=Tryz.isAgg22
 z31:=Tryz.sizeOf22
 v31:=Tryz.zeroValue22
 t40:=Tryz.underlying230
 a40:=Tryz.isAgg230
 z40:=Tryz.sizeOf230
 v40:=Tryz.zeroValue230
 t46:=Tryz.underlying129
 a46:=Tryz.isAgg129
 z46:=Tryz.sizeOf129
 v46:=Tryz.zeroValue129
 t49:=Tryz.underlying40
 a49:=Tryz.isAgg40
 z49:=Tryz.sizeOf40
 v49:=Tryz.zeroValue40
 t51:=Tryz.underlying43
 a51:=Tryz.isAgg43
 z51:=Tryz.sizeOf43
 v51:=Tryz.zeroValue43
 t119:=Tryz.underlying174
 a119:=Tryz.isAgg174
 z119:=Tryz.sizeOf174
 t141:=Tryz.underlying272
 a141:=Tryz.isAgg272
 z141:=Tryz.sizeOf272
 v141:=Tryz.zeroValue272
 t152:=Tryz.underlying268
 a152:=Tryz.isAgg268
 z152:=Tryz.sizeOf268
 v152:=Tryz.zeroValue268
 t154:=Tryz.underlying270
 a154:=Tryz.isAgg270
 z154:=Tryz.sizeOf270
 v154:=Tryz.zeroValue270
 t193:=Tryz.underlying280
 a193:=Tryz.isAgg280
 z193:=Tryz.sizeOf280
 v193:=Tryz.zeroValue280
 t194:=Tryz.underlying281
 a194:=Tryz.isAgg281
 z194:=Tryz.sizeOf281
 v194:=Tryz.zeroValue281
 t196:=Tryz.underlying283
 a196:=Tryz.isAgg283
 z196:=Tryz.sizeOf283
 v196:=Tryz.zeroValue283
 t198:=Tryz.underlying285
 a198:=Tryz.isAgg285
 z198:=Tryz.sizeOf285
 v198:=Tryz.zeroValue285
 t201:=Tryz.underlying288
 a201:=Tryz.isAgg288
 z201:=Tryz.sizeOf288
 v201:=Tryz.zeroValue288
 t226:=Tryz.underlying293
 a226:=Tryz.isAgg293
 z226:=Tryz.sizeOf293
 v226:=Tryz.zeroValue293
 t227:=Tryz.underlying294
 a227:=Tryz.isAgg294
 z227:=Tryz.sizeOf294
 v227:=Tryz.zeroValue294
 g0:=by kernel_rfl
 g6:=by kernel_rfl }
open Go.RowKit Go.Lib in
theorem Tryz.strings_Fields (s : ByteArray) (w : World) (hs : s.size < 4294967281) (hascii : ∀ (j : Nat) b, s.data.toList[j]? = some b -> b.toNat < 128) (htab : Lib.TabIs Tryz.prog w "strings.asciiSpace" .u8 Lib.asciiSpaceTab) :
    Calls Tryz.prog 177 #[.string s] w fun e w' =>
      e = .returned (.slice (some ⟨w.heap.size, 0, none⟩) (Lib.fields s.data.toList).length (Lib.fields s.data.toList).length) /\ w' = w.alloc (.cells ((Lib.fields s.data.toList).map fun l => Value.string ⟨l.toArray⟩).toArray 9) := Any.strings_Fields Tryz.lays157 (by kernel_rfl) (by kernel_rfl) s w hs hascii htab
end Go.Proofs
namespace Go.Proofs.YtjkljpdolhglcaaGreatDoor
open Go.ChangeShapes Go.WideShapes Go.ChangeAt Go.RowKit Go.Sort
theorem gPow : Tryz.prog.globalNamed "internal/strconv.uint64pow10" = some 8 := by kernel_rfl
theorem gSyn : Tryz.prog.globalNamed "strconv.ErrSyntax" = some 5 := by kernel_rfl
theorem gRng : Tryz.prog.globalNamed "strconv.ErrRange" = some 6 := by kernel_rfl
theorem gSp : Tryz.prog.globalNamed "strings.asciiSpace" = some 7 := by kernel_rfl
theorem gLen : Tryz.prog.globalNamed "nomenclator/master.lengths" = some 1 := by kernel_rfl
abbrev lenTab:List Int:=[604800,86400,3600,60,1]
def LayT (w : World) : Prop := Lib.TabIs Tryz.prog w "internal/strconv.uint64pow10" .u64 Lib.pow10Tab /\ Lib.TabIs Tryz.prog w "strings.asciiSpace" .u8 Lib.asciiSpaceTab /\ Lib.TabIs Tryz.prog w "nomenclator/master.lengths" .u64 lenTab
def LayE (w : World) : Prop := (∃ tp p, w.var? Tryz.prog "strconv.ErrSyntax" = some #[.iface tp p]) /\ (∃ tp p, w.var? Tryz.prog "strconv.ErrRange" = some #[.iface tp p]) /\ 0 < w.heap.size /\ ∃ m, w.cell? ⟨0, 0, none⟩ = some (.int .i64 m)
theorem cell_below{w w':World}{g o:Nat}(hb:Below w.heap.size w w')(hg:g<w.heap.size):w'.cell? ⟨g,o,none⟩=w.cell? ⟨g,o,none⟩:=by
 unfold World.cell?
 rw[hb.block g hg]
theorem LayT.below{w w':World}(h:LayT w)(hb:Below w.heap.size w w'):LayT w':=⟨Joins.tab_stays gPow h.1 hb (Nat.le_refl _),Joins.tab_stays gSp h.2.1 hb (Nat.le_refl _),Joins.tab_stays gLen h.2.2 hb (Nat.le_refl _)⟩
theorem LayE.below{w w':World}(h:LayE w)(hb:Below w.heap.size w w'):LayE w':=by
 obtain ⟨⟨tp,p,h1⟩,⟨tq,q,h2⟩,h3,m,h4⟩:=h
 exact ⟨⟨tp,p,Joins.var_stays gSyn h1 hb (Nat.le_refl _)⟩,⟨tq,q,Joins.var_stays gRng h2 hb (Nat.le_refl _)⟩,Nat.lt_of_lt_of_le h3 hb.size,m,by rw[cell_below hb h3];exact h4⟩
theorem itoa_nat(n:Nat)(h1:n<9223372036854775808)(w:World)(hL:LayT w) :
  Calls Tryz.prog 143 #[.int .i64 n] w fun e w'=>e=.returned (.string ⟨(Lib.decDigits n).toArray⟩)/\Hid (Below w.heap.size w w'):=by
 refine (Tryz.strconv_Itoa n (by omega) (by omega) w hL.1).mono ?_
 rintro e w' ⟨rfl,k,os,rfl⟩
 rw[Lib.itoa_nonneg]
 exact ⟨rfl,Lib.below_grow _ w (Nat.le_refl _) k os⟩
end Go.Proofs.YtjkljpdolhglcaaGreatDoor
namespace Go.Proofs.YtjkljpdolhglcaaGreatDoor
open Go.ChangeShapes Go.WideShapes Go.ChangeAt Go.RowKit
def vis(c:Int):Bool:=decide (33<=c) && decide (c<=126)
def dgt(c:Int):Bool:=decide (48<=c) && decide (c<=57)
theorem vis_iff(c:Int):vis c=true↔33<=c/\c<=126:=by simp[vis]
theorem dgt_iff(c:Int):dgt c=true↔48<=c/\c<=57:=by simp[dgt]
theorem ret_bool{a b:Bool}(h:a=b):Ending.returned (.bool a)=.returned (.bool b):=by rw[h]
theorem vis_any(c:Int)(w:World):Calls Tryz.prog 163 #[.int .u8 c] w fun e w'=>e=.returned (.bool (vis c))/\w'=w:=by
 go_enter Tryz.func163,Tryz.ntmps163
 go_wp2
 all_goals
  go_ret
  exact ⟨ret_bool (by simp[vis];try omega),rfl⟩
theorem dgt_any(c:Int)(w:World):Calls Tryz.prog 164 #[.int .u8 c] w fun e w'=>e=.returned (.bool (dgt c))/\w'=w:=by
 go_enter Tryz.func164,Tryz.ntmps164
 go_wp2
 all_goals
  go_ret
  exact ⟨ret_bool (by simp[dgt];try omega),rfl⟩
def v2(a b:Int):Int:=10*(a - 48)+(b - 48)
def v3(a b c:Int):Int:=100*(a - 48)+10*(b - 48)+(c - 48)
def num3(l:List Int):Int × Int:=
 if l.length<4 then (0,0)
 else if dgt (l.getD 1 0) && dgt (l.getD 2 0) && dgt (l.getD 3 0) && decide (v3 (l.getD 1 0) (l.getD 2 0) (l.getD 3 0)<=255) then (v3 (l.getD 1 0) (l.getD 2 0) (l.getD 3 0),4)
 else (0,0)
def esc(l:List Int):Int × Int:=
 if l.length<=1 then (0,0)
 else if dgt (l.getD 1 0) then num3 l
 else if vis (l.getD 1 0) then (l.getD 1 0,2) else (0,0)
def fr(l:List Int):Int × Int:=
 if !vis (l.getD 0 0) then (0,0)
 else if l.getD 0 0 == 92 then esc l
 else (l.getD 0 0,1)
def num3c(a b c:Int):Int × Int:=if dgt a && dgt b && dgt c && decide (v3 a b c<=255) then (v3 a b c,4) else (0,0)
theorem num3_any(t:ByteArray)(w:World)(ht:t.size<=9223372036854775807) :
  Calls Tryz.prog 165 #[.string t] w fun e w'=>e=.returned (.tuple #[.int .u8 (num3 (nums t)).1,.int .i64 (num3 (nums t)).2])/\w'=w:=by
 by_cases h4:t.size<4
 ·have h4':(t.size:Int)<4:=by omega
  have e:num3 (nums t)=(0,0):=by unfold num3;rw[if_pos (by rw[nums_len];exact h4)]
  go_enter Tryz.func165,Tryz.ntmps165
  go_wp2
  go_ret2
  exact ⟨by rw[e];rfl,rfl⟩
 ·have h4':¬ (t.size:Int)<4:=by omega
  have i1:1<t.size:=by omega
  have i2:2<t.size:=by omega
  have i3:3<t.size:=by omega
  have HE:Hid (num3 (nums t)=num3c (t[1].toNat:Int) (t[2].toNat:Int) (t[3].toNat:Int)):=by
   show num3 (nums t)=_
   unfold num3 num3c
   rw[if_neg (by rw[nums_len];exact h4),nums_at t 1 i1,nums_at t 2 i2,nums_at t 3 i3]
  have b1:=t[1].toNat_lt
  have b2:=t[2].toNat_lt
  have b3:=t[3].toNat_lt
  go_enter Tryz.func165,Tryz.ntmps165
  go_wp2_with fail
  go_loop [4,10] (fun n x=>(n=.int .i64 0/\x=.int .i64 0)∨(n=.int .i64 ((t[1].toNat:Int) - 48)/\x=.int .i64 1/\dgt (t[1].toNat:Int)=true)∨(n=.int .i64 (v2 (t[1].toNat:Int) (t[2].toNat:Int))/\x=.int .i64 2/\dgt (t[1].toNat:Int)=true/\dgt (t[2].toNat:Int)=true)∨(n=.int .i64 (v3 (t[1].toNat:Int) (t[2].toNat:Int) (t[3].toNat:Int))/\x=.int .i64 3/\dgt (t[1].toNat:Int)=true/\dgt (t[2].toNat:Int)=true/\dgt (t[3].toNat:Int)=true)) (fun _ x=>3 - (intOf x).toNat)
  case atStart=>exact .inl ⟨rfl,rfl⟩
  case round=>
   rcases hrel with ⟨rfl,rfl⟩|⟨rfl,rfl,d1⟩|⟨rfl,rfl,d1,d2⟩|⟨rfl,rfl,d1,d2,d3⟩
   ·go_wp2_with fail
    refine (dgt_any _ _).mono ?_
    rintro e w1 ⟨rfl,rfl⟩
    by_cases d:dgt (t[1].toNat:Int)=true
    ·have d':=(dgt_iff _).1 d
     go_wp2
     exact ⟨.inr (.inl ⟨rfl,rfl,d⟩),by decide⟩
    ·have d':dgt (t[1].toNat:Int)=false:=by simpa using d
     go_wp2
     go_ret2
     have e:num3c (t[1].toNat:Int) (t[2].toNat:Int) (t[3].toNat:Int)=(0,0):=by unfold num3c;rw[d'];rfl
     exact ⟨by rw[HE.out,e];rfl,rfl⟩
   ·have e1:=(dgt_iff _).1 d1
    go_wp2_with fail
    refine (dgt_any _ _).mono ?_
    rintro e w1 ⟨rfl,rfl⟩
    by_cases d:dgt (t[2].toNat:Int)=true
    ·have d':=(dgt_iff _).1 d
     go_wp2
     exact ⟨.inr (.inr (.inl ⟨congrArg _ (by unfold v2;omega),rfl,d1,d⟩)),by decide⟩
    ·have d':dgt (t[2].toNat:Int)=false:=by simpa using d
     go_wp2
     go_ret2
     have e:num3c (t[1].toNat:Int) (t[2].toNat:Int) (t[3].toNat:Int)=(0,0):=by unfold num3c;rw[d1,d'];rfl
     exact ⟨by rw[HE.out,e];rfl,rfl⟩
   ·have e1:=(dgt_iff _).1 d1
    have e2:=(dgt_iff _).1 d2
    have HV:Hid (v3 (t[1].toNat:Int) (t[2].toNat:Int) (t[3].toNat:Int)=(10:Int)*v2 (t[1].toNat:Int) (t[2].toNat:Int)+((t[3].toNat:Int) - 48)):=by show _=_;unfold v3 v2;omega
    have hv:(0:Int)<=v2 (t[1].toNat:Int) (t[2].toNat:Int)/\v2 (t[1].toNat:Int) (t[2].toNat:Int)<=99:=by unfold v2;omega
    go_wp2_with fail
    refine (dgt_any _ _).mono ?_
    rintro e w1 ⟨rfl,rfl⟩
    by_cases d:dgt (t[3].toNat:Int)=true
    ·have d':=(dgt_iff _).1 d
     go_wp2
     exact ⟨.inr (.inr (.inr ⟨congrArg _ (by rw[HV.out]),rfl,d1,d2,d⟩)),by decide⟩
    ·have d':dgt (t[3].toNat:Int)=false:=by simpa using d
     go_wp2
     go_ret2
     have e:num3c (t[1].toNat:Int) (t[2].toNat:Int) (t[3].toNat:Int)=(0,0):=by unfold num3c;rw[d1,d2,d'];rfl
     exact ⟨by rw[HE.out,e];rfl,rfl⟩
   ·have e1:=(dgt_iff _).1 d1
    have e2:=(dgt_iff _).1 d2
    have e3:=(dgt_iff _).1 d3
    have hv:(0:Int)<=v3 (t[1].toNat:Int) (t[2].toNat:Int) (t[3].toNat:Int)/\v3 (t[1].toNat:Int) (t[2].toNat:Int) (t[3].toNat:Int)<=999:=by unfold v3;omega
    have HC:Hid (num3c (t[1].toNat:Int) (t[2].toNat:Int) (t[3].toNat:Int)=if decide (v3 (t[1].toNat:Int) (t[2].toNat:Int) (t[3].toNat:Int)<=255) then (v3 (t[1].toNat:Int) (t[2].toNat:Int) (t[3].toNat:Int),4) else (0,0)):=by show _=_;unfold num3c;rw[d1,d2,d3];rfl
    generalize v3 (t[1].toNat:Int) (t[2].toNat:Int) (t[3].toNat:Int)=z at*
    by_cases h:255<z
    ·go_wp2
     go_ret2
     exact ⟨by rw[HE.out,HC.out,if_neg (by simp;omega)];rfl,rfl⟩
    ·have hz:z % 256=z:=by omega
     go_wp2
     go_ret2
     exact ⟨by rw[HE.out,HC.out,if_pos (by simp;omega)];rfl,rfl⟩
theorem fr_any(t:ByteArray)(w:World)(h1:1<=t.size)(ht:t.size<=9223372036854775807) :
  Calls Tryz.prog 145 #[.string t] w fun e w'=>e=.returned (.tuple #[.int .u8 (fr (nums t)).1,.int .i64 (fr (nums t)).2])/\w'=w:=by
 have i0:0<t.size:=by omega
 have HE:Hid (fr (nums t)=if !vis (t[0].toNat:Int) then (0,0) else if (t[0].toNat:Int) == 92 then esc (nums t) else ((t[0].toNat:Int),1)):=by
  show fr (nums t)=_
  unfold fr
  rw[nums_at t 0 i0]
 have h1':(1:Int)<=(t.size:Int):=by omega
 go_enter Tryz.func145,Tryz.ntmps145
 go_wp2_with fail
 refine (vis_any _ _).mono ?_
 rintro e w1 ⟨rfl,rfl⟩
 by_cases hv:vis (t[0].toNat:Int)=true
 ·by_cases h92:(t[0].toNat:Int)=92
  ·have HF:Hid (fr (nums t)=esc (nums t)):=by
    show _=_
    rw[HE.out,hv,h92];rfl
   clear HE
   by_cases h2:1<t.size
   ·have h2':(1:Int)<(t.size:Int):=by omega
    have HG:Hid (esc (nums t)=if dgt (t[1].toNat:Int) then num3 (nums t) else if vis (t[1].toNat:Int) then ((t[1].toNat:Int),2) else (0,0)):=by
     show esc (nums t)=_
     unfold esc
     rw[if_neg (by rw[nums_len];omega),nums_at t 1 h2]
    go_wp2_with fail
    refine (dgt_any _ _).mono ?_
    rintro e w2 ⟨rfl,rfl⟩
    by_cases hd:dgt (t[1].toNat:Int)=true
    ·have HN:Hid (esc (nums t)=num3 (nums t)):=by show _=_;rw[HG.out,hd];rfl
     go_wp2_with fail
     refine (num3_any t _ ht).mono ?_
     rintro e w3 ⟨rfl,rfl⟩
     go_wp2
     go_ret2
     exact ⟨by rw[HF.out,HN.out];rfl,rfl⟩
    ·have hd':dgt (t[1].toNat:Int)=false:=by simpa using hd
     clear hd
     go_wp2_with fail
     refine (vis_any _ _).mono ?_
     rintro e w3 ⟨rfl,rfl⟩
     by_cases hv1:vis (t[1].toNat:Int)=true
     ·have HN:Hid (esc (nums t)=((t[1].toNat:Int),2)):=by show _=_;rw[HG.out,hd',hv1];rfl
      go_wp2
      go_ret2
      exact ⟨by rw[HF.out,HN.out];rfl,rfl⟩
     ·have hv1':vis (t[1].toNat:Int)=false:=by simpa using hv1
      have HN:Hid (esc (nums t)=(0,0)):=by show _=_;rw[HG.out,hd',hv1'];rfl
      clear hv1
      go_wp2
      go_ret2
      exact ⟨by rw[HF.out,HN.out];rfl,rfl⟩
   ·have h2':¬ (1:Int)<(t.size:Int):=by omega
    have HN:Hid (esc (nums t)=(0,0)):=by show _=_;unfold esc;rw[if_pos (by rw[nums_len];omega)]
    go_wp2
    go_ret2
    exact ⟨by rw[HF.out,HN.out];rfl,rfl⟩
  ·have HF:Hid (fr (nums t)=((t[0].toNat:Int),1)):=by
    show _=_
    rw[HE.out,hv,beq_false_of_ne h92];rfl
   have hb:((t[0].toNat:Int) != 92)=true:=bne_iff_ne.2 h92
   clear HE h92
   go_wp2
   go_ret2
   exact ⟨by rw[HF.out];rfl,rfl⟩
 ·have hv':vis (t[0].toNat:Int)=false:=by simpa using hv
  have HF:Hid (fr (nums t)=(0,0)):=by show _=_;rw[HE.out,hv'];rfl
  clear HE hv
  go_wp2
  go_ret2
  exact ⟨by rw[HF.out];rfl,rfl⟩
def BB(w:World)(b:Nat)(p v:Value):Prop:=w.heap[b]?=some (.cells #[p,v] 66 (0,0))
theorem BB.lt{w:World}{b:Nat}{p v:Value}(h:BB w b p v):b<w.heap.size:=(Array.getElem?_eq_some_iff.1 h).1
theorem BB.c0{w:World}{b:Nat}{p v:Value}(h:BB w b p v):w.cell? ⟨b,0,none⟩=some p:=by
 have h':w.heap[b]?=_:=h
 simp[World.cell?,h']
theorem BB.c1{w:World}{b:Nat}{p v:Value}(h:BB w b p v):w.cell? ⟨b,1,none⟩=some v:=by
 have h':w.heap[b]?=_:=h
 simp[World.cell?,h']
theorem BB.fz{w:World}{b:Nat}{p v:Value}(h:BB w b p v)(i:Nat):w.frozen? ⟨b,i,none⟩=false:=by
 have h':w.heap[b]?=_:=h
 simp[World.frozen?,h']
theorem BB.sh{w:World}{b:Nat}{p v:Value}(h:BB w b p v):w.shape? b=some (66,2):=by
 have h':w.heap[b]?=_:=h
 simp[World.shape?,h']
theorem BB.same{w w':World}{b:Nat}{p v:Value}(h:BB w b p v)(hb:w'.heap[b]?=w.heap[b]?):BB w' b p v:=hb.trans h
theorem call65(x:Value)(w:World):(callFunc 65 #[x]).run Tryz.prog w=.ok (.value x) w:=by
 rw[run_callFunc_extern (e:=Extern.AbiNoEscape.same) Tryz.func65 (by kernel_rfl) (by kernel_rfl) (by kernel_rfl) (by kernel_rfl) _ w]
 rfl
theorem neq_bld(a:Addr)(w:World):(binOp .neq 64 (.pointer (some a)) (.pointer (some a))).run Tryz.prog w=.ok (.bool false) w:=by
 obtain ⟨j,hi⟩:∃j,Tryz.prog.info? 66=some j:=Option.isSome_iff_exists.1 (by kernel_rfl)
 exact Lib.run_neq_ptr_same w a Tryz.underlying64 hi
theorem to_unsafe(w:World)(b:Nat)(h:w.shape? b=some (66,2)):(convert 64 117 (.pointer (some ⟨b,0,none⟩))).run Tryz.prog w=.ok (.pointer (some ⟨b,0,none⟩)) w:=by
 obtain ⟨j,hi⟩:∃j,Tryz.prog.info? 66=some j:=Option.isSome_iff_exists.1 (by kernel_rfl)
 have hz:(Tryz.prog.info? 66).map (·.size)=some 2:=by kernel_rfl
 rw[hi] at hz
 have hj:j.size=2:=by simpa using hz
 exact Lib.run_to_unsafe w ⟨b,0,none⟩ Tryz.underlying64 Tryz.underlying117 hi (by omega) h (by simp)
theorem from_unsafe(w:World)(b:Nat)(h:w.shape? b=some (66,2)):(convert 117 64 (.pointer (some ⟨b,0,none⟩))).run Tryz.prog w=.ok (.pointer (some ⟨b,0,none⟩)) w:=by
 obtain ⟨j,hi⟩:∃j,Tryz.prog.info? 66=some j:=Option.isSome_iff_exists.1 (by kernel_rfl)
 exact Lib.run_from_unsafe w ⟨b,0,none⟩ Tryz.underlying117 Tryz.underlying64 hi h (by kernel_rfl)
theorem check_fresh(b:Nat)(v:Value)(w:World)(h:BB w b (.pointer none) v) :
  Calls Tryz.prog 39 #[.pointer (some ⟨b,0,none⟩)] w fun e w'=>e=.returned (.tuple #[])/\w'=w.setCell ⟨b,0,none⟩ (.pointer (some ⟨b,0,none⟩)):=by
 have c0:=h.c0
 have f0:=h.fz 0
 have h1:=call65
 have h2:=to_unsafe w b h.sh
 have h3:=from_unsafe w b h.sh
 have h4:=neq_bld ⟨b,0,none⟩
 clear h
 go_enter Tryz.func39,Tryz.ntmps39
 go_wp2
 go_end0
 exact ⟨rfl,rfl⟩
theorem check_used(b:Nat)(v:Value)(w:World)(h:BB w b (.pointer (some ⟨b,0,none⟩)) v) :
  Calls Tryz.prog 39 #[.pointer (some ⟨b,0,none⟩)] w fun e w'=>e=.returned (.tuple #[])/\w'=w:=by
 have c0:=h.c0
 have h4:=neq_bld ⟨b,0,none⟩
 clear h
 go_enter Tryz.func39,Tryz.ntmps39
 go_wp2
 go_end0
 exact ⟨rfl,rfl⟩
def BSt(B:Nat)(w:World)(b N:Nat)(bs:List Value):Prop:=
 (N=0/\bs=[]/\BB w b (.pointer (some ⟨b,0,none⟩)) (.slice none 0 0)) ∨
 ∃g c,BB w b (.pointer (some ⟨b,0,none⟩)) (.slice (some ⟨g,0,none⟩) bs.length c)/\w.ownsRow B 5 1 (.slice (some ⟨g,0,none⟩) bs.length c) bs.length bs/\N<=c/\g≠b/\g<w.heap.size/\0<c
theorem freeze_other(w:World)(g n b:Nat)(h:g≠b):(w.freeze ⟨g,0,none⟩ n).heap[b]?=w.heap[b]?:=by
 unfold World.freeze
 split
 ·rfl
 ·simp[Array.getElem?_modify,h]
theorem bstring(B b N:Nat)(l:List UInt8)(w:World)(h:BSt B w b N (Lib.byteCells l))(hN:l.length=N)(hl:l.length<=9223372036854775807) :
  Calls Tryz.prog 22 #[.pointer (some ⟨b,0,none⟩)] w fun e w'=>e=.returned (.string ⟨l.toArray⟩)/\Hid (Below B w w'):=by
 rcases h with ⟨h0,h1,h2⟩|⟨g,c,h1,h2,h3,h4,h5,h6⟩
 ·have hl0:l=[]:=List.eq_nil_of_length_eq_zero (by omega)
  subst hl0
  have c1:=h2.c1
  have hlt:=h2.lt
  have s1:∀(W:World) (ts:Array TypeId) (ty:TypeId),(Builtin.unsafeSliceData_ ts ty #[.slice none 0 0]).run Tryz.prog W=.ok (.pointer none) W:=fun W ts ty=>Lib.run_unsafeSliceData_nil W ts ty 0 0
  have s2:∀(W:World) (ty:TypeId),(Builtin.unsafeString_ #[103,3] ty #[.pointer none,.int .i64 0]).run Tryz.prog W=.ok (.string .empty) W:=fun W ty=>Lib.run_unsafeString_none W 103 3 ty none
  clear h1 h2
  go_enter Tryz.func22,Tryz.ntmps22
  go_wp2_with fail
  go_region_held3 (fun W=>W.cell? ⟨b,1,none⟩=some (.slice none 0 0)) (go_keep) (fail)
  go_wp2
  go_ret
  exact ⟨rfl,(Below.refl _ _).drew⟩
 ·rw[Lib.byteCells_length] at h1 h2
  have c1:=h1.c1
  have hlt:=h1.lt
  have s1:∀(W:World) (ts:Array TypeId) (ty:TypeId),(Builtin.unsafeSliceData_ ts ty #[.slice (some ⟨g,0,none⟩) l.length c]).run Tryz.prog W=.ok (.pointer (some ⟨g,0,none⟩)) W:=fun W ts ty=>Lib.run_unsafeSliceData_row W ts ty _ _ _ (by omega)
  by_cases h0:l=[]
  ·subst h0
   have s2:∀(W:World) (ty:TypeId),(Builtin.unsafeString_ #[103,3] ty #[.pointer (some ⟨g,0,none⟩),.int .i64 0]).run Tryz.prog W=.ok (.string .empty) W:=fun W ty=>Lib.run_unsafeString_none W 103 3 ty _
   clear h1 h2 hN
   simp only[List.length_nil] at c1 s1
   go_enter Tryz.func22,Tryz.ntmps22
   go_wp2_with fail
   go_region_held3 (fun W=>W.cell? ⟨b,1,none⟩=some (.slice (some ⟨g,0,none⟩) 0 c)) (go_keep) (fail)
   go_wp2
   go_ret
   exact ⟨rfl,(Below.refl _ _).drew⟩
  ·have hBg:=(h2.lt g rfl).1
   have s2:∀ty:TypeId,(Builtin.unsafeString_ #[103,3] ty #[.pointer (some ⟨g,0,none⟩),.int .i64 l.length]).run Tryz.prog w.drew=.ok (.string ⟨l.toArray⟩) (w.drew.freeze ⟨g,0,none⟩ l.length):=by
    intro ty
    have hsh:w.drew.shape? g=some (5,c):=by
     rcases h2.2 with ⟨e,_⟩|⟨g',cap,cur,e,_,hg,_,_,hs,_⟩
     ·cases e
     ·have e1:g=g':=by injection e with e1 _ _;injection e1 with e1;injection e1
      have e2:c=cap:=by injection e
      subst e1;subst e2
      have hg':w.drew.heap[g]?=some (.cells cur 5 (0,0)):=hg
      simp[World.shape?,hg',hs]
    exact Lib.run_unsafeString_row w.drew 103 3 ty 5 Tryz.underlying103 (by kernel_rfl) g c hsh l h0 (by omega) hl (fun j x hx=>by
     have:=h2.cells (g:=g) rfl j (.int .u8 x.toNat) (by simp[Lib.byteCells,hx])
     exact this)
   have HF:Hid (Below B w (w.drew.freeze ⟨g,0,none⟩ l.length)):=Lib.below_freeze (Below.refl _ _).drew hBg _
   have hfc:(w.drew.freeze ⟨g,0,none⟩ l.length).cell? ⟨b,1,none⟩=some (.slice (some ⟨g,0,none⟩) l.length c):=(World.cell?_of_block (w:=w) (a:=⟨b,1,none⟩) (freeze_other w.drew g l.length b h4)).trans c1
   clear h1 h2 hN
   generalize hll:l.length=ll at*
   clear hll
   go_enter Tryz.func22,Tryz.ntmps22
   go_wp2_with fail
   go_region_held3 (fun W=>W.cell? ⟨b,1,none⟩=some (.slice (some ⟨g,0,none⟩) ll c)) (go_keep) (fail)
   go_wp2
   go_ret
   exact ⟨rfl,HF.out⟩
end Go.Proofs.YtjkljpdolhglcaaGreatDoor
