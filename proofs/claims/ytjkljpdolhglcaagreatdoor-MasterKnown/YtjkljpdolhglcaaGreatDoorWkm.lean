/- Texts laid together, in parts: Jm Lay14. -/
import Derived.Test.YtjkljpdolhglcaaGreatDoorWkl
import Derived.BigQuiet
import Derived.Laws.Concat
import Derived.Test.YtjkljpdolhglcaaGreatDoorCards
import Derived.Test.YtjkljpdolhglcaaGreatDoorTie
import Derived.ProofKit
import Derived.OpenShut
import Derived.LaidMore
import Derived.LaidOnce
import Derived.LaidSub
import Derived.MakeChecks
import Derived.Stop.LaidErr
import Derived.Deep.DeepHandedRow
import Derived.Deep.DeepWitnessRowRef
import Derived.Lay
set_option maxRecDepth 100000
set_option maxHeartbeats 8000000
set_option linter.unusedVariables false
set_option linter.unusedSimpArgs false
namespace Go.Proofs.YtjkljpdolhglcaaGreatDoor
open Go.ChangeShapes Go.WideShapes Go.ChangeAt Go.RowKit
theorem ttl_ok{s:ByteArray}{n:Nat}(h:ttlF s=some n)(hs:s.size<=281474976710656)(w:World)(hE:LayE w)(hL:LayT w):Calls Tryz.prog 16 #[.string s] w fun e w'=>e=.returned (.tuple #[.int .u32 (n:Int),.int .i64 0])/\Hid (Below w.heap.size w w'):=by
 have K:=ttl_any s hs w hE hL
 rw[h] at K
 refine K.mono ?_
 rintro e w' ⟨m,er,rfl,h1,h2⟩
 rcases h1.out with ⟨rfl,h3⟩|⟨_,h3,_⟩
 ·cases h3;exact ⟨rfl,h2⟩
 ·cases h3
theorem ttl_no{s:ByteArray}(h:ttlF s=none)(hs:s.size<=281474976710656)(w:World)(hE:LayE w)(hL:LayT w):Calls Tryz.prog 16 #[.string s] w fun e w'=>e=.returned (.tuple #[.int .u32 0,.int .i64 240])/\Hid (Below w.heap.size w w'):=by
 have K:=ttl_any s hs w hE hL
 rw[h] at K
 refine K.mono ?_
 rintro e w' ⟨m,er,rfl,h1,h2⟩
 rcases h1.out with ⟨rfl,h3⟩|⟨rfl,h3,rfl⟩
 ·cases h3
 ·exact ⟨rfl,h2⟩
theorem k_at:∀k,k<9->∃s er,(#[.string ⟨#[97,32,65,32,49,46,50,46,51,46,52]⟩,.string ⟨#[32,65,32,49,46,50,46,51,46,52]⟩,.string ⟨#[97,32,54,48,32,54,48,32,65,32,49,46,50,46,51,46,52]⟩,.string ⟨#[97,32,54,48,32,73,78,32,67,72,32,65,32,49,46,50,46,51,46,52]⟩,.string ⟨#[97,32,54,48]⟩,.string ⟨#[36,70,79,79,32,120]⟩,.string ⟨#[97,32,54,48,32,70,79,79,32,120]⟩,.string ⟨#[97,32,54,48,32,65,78,89,32,120]⟩,.string ⟨#[97,32,54,48,32,65,32,49,46,50,46,51]⟩]:Array Value)[k]?=some (.string s)/\(#[.int .i64 9,.int .i64 9,.int .i64 240,.int .i64 240,.int .i64 240,.int .i64 240,.int .i64 6,.int .i64 6,.int .i64 7]:Array Value)[k]?=some (.int .i64 er)/\mstF (⟨#[10]⟩++s) nmX=.er er 2/\s.size<=100
 |0,_=>⟨_,_,rfl,rfl,ex_f0,by decide⟩
 |1,_=>⟨_,_,rfl,rfl,ex_f1,by decide⟩
 |2,_=>⟨_,_,rfl,rfl,ex_f2,by decide⟩
 |3,_=>⟨_,_,rfl,rfl,ex_f3,by decide⟩
 |4,_=>⟨_,_,rfl,rfl,ex_f4,by decide⟩
 |5,_=>⟨_,_,rfl,rfl,ex_f5,by decide⟩
 |6,_=>⟨_,_,rfl,rfl,ex_f6,by decide⟩
 |7,_=>⟨_,_,rfl,rfl,ex_f7,by decide⟩
 |8,_=>⟨_,_,rfl,rfl,ex_f8,by decide⟩
 |k+9,h=>by omega
theorem t_at:∀k,k<6->∃s,(#[.string ⟨#[49,100,49,119]⟩,.string ⟨#[49,104,49,104]⟩,.string ⟨#[48,57,48]⟩,.string ⟨#[]⟩,.string ⟨#[104]⟩,.string ⟨#[50,49,52,55,52,56,51,54,52,56]⟩]:Array Value)[k]?=some (.string s)/\ttlF s=none/\s.size<=100
 |0,_=>⟨_,rfl,ex_n0,by decide⟩
 |1,_=>⟨_,rfl,ex_n1,by decide⟩
 |2,_=>⟨_,rfl,ex_n2,by decide⟩
 |3,_=>⟨_,rfl,ex_n3,by decide⟩
 |4,_=>⟨_,rfl,ex_n4,by decide⟩
 |5,_=>⟨_,rfl,ex_n5,by decide⟩
 |k+6,h=>by omega
theorem nm_b(W:World):Nm (W.alloc (.cells #[.string ⟨#[98]⟩] 9)) (some ⟨W.heap.size,0,none⟩) 1 nmX:=nm_new W nmX 1 rfl (by decide)
theorem knownL(w:World)(hE:LayE w)(hL:LayT w):Calls Tryz.prog 6 #[] w fun e w'=>e=.returned (.bool true)/\Hid (Below w.heap.size w w'):=by
 have H:Hid (∀W,Below w.heap.size w W->LayT W/\LayE W):=fun W hW=>⟨hL.below hW,hE.below hW⟩
 clear hE hL
 have HS:=Lib.hid (known_start w)
 have HW:Hid (Below w.heap.size w (((((((((((w.alloc (.cells #[.string ⟨#[98]⟩] 9)).alloc (.cells #[.string ⟨#[110,115]⟩,.string ⟨#[98]⟩] 9)).alloc (.cells #[.slice (some ⟨w.heap.size+1,0,none⟩) 2 2] 23)).alloc (.cells #[.slice (some ⟨w.heap.size,0,none⟩) 1 1,.int .u16 2,.int .u16 1,.int .u32 3600,.slice (some ⟨w.heap.size+1+1,0,none⟩) 1 1,.slice none 0 0,.slice none 0 0,.slice none 0 0] 50)).alloc (.cells #[.string ⟨#[98]⟩] 9)).alloc (.cells #[.string ⟨#[110,115]⟩,.string ⟨#[98]⟩] 9)).alloc (.cells #[.string ⟨#[104]⟩,.string ⟨#[98]⟩] 9)).alloc (.cells #[.slice (some ⟨w.heap.size+1+1+1+1+1,0,none⟩) 2 2,.slice (some ⟨w.heap.size+1+1+1+1+1+1,0,none⟩) 2 2] 23)).alloc (.cells #[.int .u32 1,.int .u32 2,.int .u32 3,.int .u32 4,.int .u32 5] 43)).alloc (.cells #[.slice (some ⟨w.heap.size+1+1+1+1,0,none⟩) 1 1,.int .u16 6,.int .u16 1,.int .u32 5,.slice (some ⟨w.heap.size+1+1+1+1+1+1+1,0,none⟩) 2 2,.slice (some ⟨w.heap.size+1+1+1+1+1+1+1+1,0,none⟩) 5 5,.slice none 0 0,.slice none 0 0] 50)).alloc (.cells #[.slice (some ⟨w.heap.size,0,none⟩) 1 1,.int .u16 2,.int .u16 1,.int .u32 3600,.slice (some ⟨w.heap.size+1+1,0,none⟩) 1 1,.slice none 0 0,.slice none 0 0,.slice none 0 0] 50))/\Below ((((((((((w.alloc (.cells #[.string ⟨#[98]⟩] 9)).alloc (.cells #[.string ⟨#[110,115]⟩,.string ⟨#[98]⟩] 9)).alloc (.cells #[.slice (some ⟨w.heap.size+1,0,none⟩) 2 2] 23)).alloc (.cells #[.slice (some ⟨w.heap.size,0,none⟩) 1 1,.int .u16 2,.int .u16 1,.int .u32 3600,.slice (some ⟨w.heap.size+1+1,0,none⟩) 1 1,.slice none 0 0,.slice none 0 0,.slice none 0 0] 50)).alloc (.cells #[.string ⟨#[98]⟩] 9)).alloc (.cells #[.string ⟨#[110,115]⟩,.string ⟨#[98]⟩] 9)).alloc (.cells #[.string ⟨#[104]⟩,.string ⟨#[98]⟩] 9)).alloc (.cells #[.slice (some ⟨w.heap.size+1+1+1+1+1,0,none⟩) 2 2,.slice (some ⟨w.heap.size+1+1+1+1+1+1,0,none⟩) 2 2] 23)).alloc (.cells #[.int .u32 1,.int .u32 2,.int .u32 3,.int .u32 4,.int .u32 5] 43)).alloc (.cells #[.slice (some ⟨w.heap.size+1+1+1+1,0,none⟩) 1 1,.int .u16 6,.int .u16 1,.int .u32 5,.slice (some ⟨w.heap.size+1+1+1+1+1+1+1,0,none⟩) 2 2,.slice (some ⟨w.heap.size+1+1+1+1+1+1+1+1,0,none⟩) 5 5,.slice none 0 0,.slice none 0 0] 50)).heap.size ((((((((((w.alloc (.cells #[.string ⟨#[98]⟩] 9)).alloc (.cells #[.string ⟨#[110,115]⟩,.string ⟨#[98]⟩] 9)).alloc (.cells #[.slice (some ⟨w.heap.size+1,0,none⟩) 2 2] 23)).alloc (.cells #[.slice (some ⟨w.heap.size,0,none⟩) 1 1,.int .u16 2,.int .u16 1,.int .u32 3600,.slice (some ⟨w.heap.size+1+1,0,none⟩) 1 1,.slice none 0 0,.slice none 0 0,.slice none 0 0] 50)).alloc (.cells #[.string ⟨#[98]⟩] 9)).alloc (.cells #[.string ⟨#[110,115]⟩,.string ⟨#[98]⟩] 9)).alloc (.cells #[.string ⟨#[104]⟩,.string ⟨#[98]⟩] 9)).alloc (.cells #[.slice (some ⟨w.heap.size+1+1+1+1+1,0,none⟩) 2 2,.slice (some ⟨w.heap.size+1+1+1+1+1+1,0,none⟩) 2 2] 23)).alloc (.cells #[.int .u32 1,.int .u32 2,.int .u32 3,.int .u32 4,.int .u32 5] 43)).alloc (.cells #[.slice (some ⟨w.heap.size+1+1+1+1,0,none⟩) 1 1,.int .u16 6,.int .u16 1,.int .u32 5,.slice (some ⟨w.heap.size+1+1+1+1+1+1+1,0,none⟩) 2 2,.slice (some ⟨w.heap.size+1+1+1+1+1+1+1+1,0,none⟩) 5 5,.slice none 0 0,.slice none 0 0] 50)) (((((((((((w.alloc (.cells #[.string ⟨#[98]⟩] 9)).alloc (.cells #[.string ⟨#[110,115]⟩,.string ⟨#[98]⟩] 9)).alloc (.cells #[.slice (some ⟨w.heap.size+1,0,none⟩) 2 2] 23)).alloc (.cells #[.slice (some ⟨w.heap.size,0,none⟩) 1 1,.int .u16 2,.int .u16 1,.int .u32 3600,.slice (some ⟨w.heap.size+1+1,0,none⟩) 1 1,.slice none 0 0,.slice none 0 0,.slice none 0 0] 50)).alloc (.cells #[.string ⟨#[98]⟩] 9)).alloc (.cells #[.string ⟨#[110,115]⟩,.string ⟨#[98]⟩] 9)).alloc (.cells #[.string ⟨#[104]⟩,.string ⟨#[98]⟩] 9)).alloc (.cells #[.slice (some ⟨w.heap.size+1+1+1+1+1,0,none⟩) 2 2,.slice (some ⟨w.heap.size+1+1+1+1+1+1,0,none⟩) 2 2] 23)).alloc (.cells #[.int .u32 1,.int .u32 2,.int .u32 3,.int .u32 4,.int .u32 5] 43)).alloc (.cells #[.slice (some ⟨w.heap.size+1+1+1+1,0,none⟩) 1 1,.int .u16 6,.int .u16 1,.int .u32 5,.slice (some ⟨w.heap.size+1+1+1+1+1+1+1,0,none⟩) 2 2,.slice (some ⟨w.heap.size+1+1+1+1+1+1+1+1,0,none⟩) 5 5,.slice none 0 0,.slice none 0 0] 50)).alloc (.cells #[.slice (some ⟨w.heap.size,0,none⟩) 1 1,.int .u16 2,.int .u16 1,.int .u32 3600,.slice (some ⟨w.heap.size+1+1,0,none⟩) 1 1,.slice none 0 0,.slice none 0 0,.slice none 0 0] 50))):=⟨HS.out.1.trans ((new_below _ _).mono HS.out.1.size),new_below _ _⟩
 have K1:Hid (Calls Tryz.prog 15 #[.string ⟨#[36,84,84,76,32,49,104,10,64,32,78,83,32,110,115]⟩,.slice (some ⟨w.heap.size+1+1+1+1+1+1+1+1+1+1,0,none⟩) 1 1] (((((((((((w.alloc (.cells #[.string ⟨#[98]⟩] 9)).alloc (.cells #[.string ⟨#[110,115]⟩,.string ⟨#[98]⟩] 9)).alloc (.cells #[.slice (some ⟨w.heap.size+1,0,none⟩) 2 2] 23)).alloc (.cells #[.slice (some ⟨w.heap.size,0,none⟩) 1 1,.int .u16 2,.int .u16 1,.int .u32 3600,.slice (some ⟨w.heap.size+1+1,0,none⟩) 1 1,.slice none 0 0,.slice none 0 0,.slice none 0 0] 50)).alloc (.cells #[.string ⟨#[98]⟩] 9)).alloc (.cells #[.string ⟨#[110,115]⟩,.string ⟨#[98]⟩] 9)).alloc (.cells #[.string ⟨#[104]⟩,.string ⟨#[98]⟩] 9)).alloc (.cells #[.slice (some ⟨w.heap.size+1+1+1+1+1,0,none⟩) 2 2,.slice (some ⟨w.heap.size+1+1+1+1+1+1,0,none⟩) 2 2] 23)).alloc (.cells #[.int .u32 1,.int .u32 2,.int .u32 3,.int .u32 4,.int .u32 5] 43)).alloc (.cells #[.slice (some ⟨w.heap.size+1+1+1+1,0,none⟩) 1 1,.int .u16 6,.int .u16 1,.int .u32 5,.slice (some ⟨w.heap.size+1+1+1+1+1+1+1,0,none⟩) 2 2,.slice (some ⟨w.heap.size+1+1+1+1+1+1+1+1,0,none⟩) 5 5,.slice none 0 0,.slice none 0 0] 50)).alloc (.cells #[.slice (some ⟨w.heap.size,0,none⟩) 1 1,.int .u16 2,.int .u16 1,.int .u32 3600,.slice (some ⟨w.heap.size+1+1,0,none⟩) 1 1,.slice none 0 0,.slice none 0 0,.slice none 0 0] 50)) fun e w'=>e=.returned (.bool true)/\Hid (Below (((((((((((w.alloc (.cells #[.string ⟨#[98]⟩] 9)).alloc (.cells #[.string ⟨#[110,115]⟩,.string ⟨#[98]⟩] 9)).alloc (.cells #[.slice (some ⟨w.heap.size+1,0,none⟩) 2 2] 23)).alloc (.cells #[.slice (some ⟨w.heap.size,0,none⟩) 1 1,.int .u16 2,.int .u16 1,.int .u32 3600,.slice (some ⟨w.heap.size+1+1,0,none⟩) 1 1,.slice none 0 0,.slice none 0 0,.slice none 0 0] 50)).alloc (.cells #[.string ⟨#[98]⟩] 9)).alloc (.cells #[.string ⟨#[110,115]⟩,.string ⟨#[98]⟩] 9)).alloc (.cells #[.string ⟨#[104]⟩,.string ⟨#[98]⟩] 9)).alloc (.cells #[.slice (some ⟨w.heap.size+1+1+1+1+1,0,none⟩) 2 2,.slice (some ⟨w.heap.size+1+1+1+1+1+1,0,none⟩) 2 2] 23)).alloc (.cells #[.int .u32 1,.int .u32 2,.int .u32 3,.int .u32 4,.int .u32 5] 43)).alloc (.cells #[.slice (some ⟨w.heap.size+1+1+1+1,0,none⟩) 1 1,.int .u16 6,.int .u16 1,.int .u32 5,.slice (some ⟨w.heap.size+1+1+1+1+1+1+1,0,none⟩) 2 2,.slice (some ⟨w.heap.size+1+1+1+1+1+1+1+1,0,none⟩) 5 5,.slice none 0 0,.slice none 0 0] 50)).alloc (.cells #[.slice (some ⟨w.heap.size,0,none⟩) 1 1,.int .u16 2,.int .u16 1,.int .u32 3600,.slice (some ⟨w.heap.size+1+1,0,none⟩) 1 1,.slice none 0 0,.slice none 0 0,.slice none 0 0] 50)).heap.size (((((((((((w.alloc (.cells #[.string ⟨#[98]⟩] 9)).alloc (.cells #[.string ⟨#[110,115]⟩,.string ⟨#[98]⟩] 9)).alloc (.cells #[.slice (some ⟨w.heap.size+1,0,none⟩) 2 2] 23)).alloc (.cells #[.slice (some ⟨w.heap.size,0,none⟩) 1 1,.int .u16 2,.int .u16 1,.int .u32 3600,.slice (some ⟨w.heap.size+1+1,0,none⟩) 1 1,.slice none 0 0,.slice none 0 0,.slice none 0 0] 50)).alloc (.cells #[.string ⟨#[98]⟩] 9)).alloc (.cells #[.string ⟨#[110,115]⟩,.string ⟨#[98]⟩] 9)).alloc (.cells #[.string ⟨#[104]⟩,.string ⟨#[98]⟩] 9)).alloc (.cells #[.slice (some ⟨w.heap.size+1+1+1+1+1,0,none⟩) 2 2,.slice (some ⟨w.heap.size+1+1+1+1+1+1,0,none⟩) 2 2] 23)).alloc (.cells #[.int .u32 1,.int .u32 2,.int .u32 3,.int .u32 4,.int .u32 5] 43)).alloc (.cells #[.slice (some ⟨w.heap.size+1+1+1+1,0,none⟩) 1 1,.int .u16 6,.int .u16 1,.int .u32 5,.slice (some ⟨w.heap.size+1+1+1+1+1+1+1,0,none⟩) 2 2,.slice (some ⟨w.heap.size+1+1+1+1+1+1+1+1,0,none⟩) 5 5,.slice none 0 0,.slice none 0 0] 50)).alloc (.cells #[.slice (some ⟨w.heap.size,0,none⟩) 1 1,.int .u16 2,.int .u16 1,.int .u32 3600,.slice (some ⟨w.heap.size+1+1,0,none⟩) 1 1,.slice none 0 0,.slice none 0 0,.slice none 0 0] 50)) w')):=(by
  have h:=lrd_one HS.out.2.1
  simp only[World.size_alloc] at h
  exact reads15 _ ⟨some ⟨w.heap.size+1+1+1+1+1+1+1+1+1+1,0,none⟩,1,1⟩ [nsR] (((((((((((w.alloc (.cells #[.string ⟨#[98]⟩] 9)).alloc (.cells #[.string ⟨#[110,115]⟩,.string ⟨#[98]⟩] 9)).alloc (.cells #[.slice (some ⟨w.heap.size+1,0,none⟩) 2 2] 23)).alloc (.cells #[.slice (some ⟨w.heap.size,0,none⟩) 1 1,.int .u16 2,.int .u16 1,.int .u32 3600,.slice (some ⟨w.heap.size+1+1,0,none⟩) 1 1,.slice none 0 0,.slice none 0 0,.slice none 0 0] 50)).alloc (.cells #[.string ⟨#[98]⟩] 9)).alloc (.cells #[.string ⟨#[110,115]⟩,.string ⟨#[98]⟩] 9)).alloc (.cells #[.string ⟨#[104]⟩,.string ⟨#[98]⟩] 9)).alloc (.cells #[.slice (some ⟨w.heap.size+1+1+1+1+1,0,none⟩) 2 2,.slice (some ⟨w.heap.size+1+1+1+1+1+1,0,none⟩) 2 2] 23)).alloc (.cells #[.int .u32 1,.int .u32 2,.int .u32 3,.int .u32 4,.int .u32 5] 43)).alloc (.cells #[.slice (some ⟨w.heap.size+1+1+1+1,0,none⟩) 1 1,.int .u16 6,.int .u16 1,.int .u32 5,.slice (some ⟨w.heap.size+1+1+1+1+1+1+1,0,none⟩) 2 2,.slice (some ⟨w.heap.size+1+1+1+1+1+1+1+1,0,none⟩) 5 5,.slice none 0 0,.slice none 0 0] 50)).alloc (.cells #[.slice (some ⟨w.heap.size,0,none⟩) 1 1,.int .u16 2,.int .u16 1,.int .u32 3600,.slice (some ⟨w.heap.size+1+1,0,none⟩) 1 1,.slice none 0 0,.slice none 0 0,.slice none 0 0] 50)) h ex_ns (H.out _ HW.out.1).2 (H.out _ HW.out.1).1)
 go_enter Tryz.func6,Tryz.ntmps6
 go_wp2_with fail
 refine K1.out.mono ?_
 rintro e v1 ⟨rfl,H1⟩
 have HX:Hid (Below w.heap.size w v1/\Below ((((((((((w.alloc (.cells #[.string ⟨#[98]⟩] 9)).alloc (.cells #[.string ⟨#[110,115]⟩,.string ⟨#[98]⟩] 9)).alloc (.cells #[.slice (some ⟨w.heap.size+1,0,none⟩) 2 2] 23)).alloc (.cells #[.slice (some ⟨w.heap.size,0,none⟩) 1 1,.int .u16 2,.int .u16 1,.int .u32 3600,.slice (some ⟨w.heap.size+1+1,0,none⟩) 1 1,.slice none 0 0,.slice none 0 0,.slice none 0 0] 50)).alloc (.cells #[.string ⟨#[98]⟩] 9)).alloc (.cells #[.string ⟨#[110,115]⟩,.string ⟨#[98]⟩] 9)).alloc (.cells #[.string ⟨#[104]⟩,.string ⟨#[98]⟩] 9)).alloc (.cells #[.slice (some ⟨w.heap.size+1+1+1+1+1,0,none⟩) 2 2,.slice (some ⟨w.heap.size+1+1+1+1+1+1,0,none⟩) 2 2] 23)).alloc (.cells #[.int .u32 1,.int .u32 2,.int .u32 3,.int .u32 4,.int .u32 5] 43)).alloc (.cells #[.slice (some ⟨w.heap.size+1+1+1+1,0,none⟩) 1 1,.int .u16 6,.int .u16 1,.int .u32 5,.slice (some ⟨w.heap.size+1+1+1+1+1+1+1,0,none⟩) 2 2,.slice (some ⟨w.heap.size+1+1+1+1+1+1+1+1,0,none⟩) 5 5,.slice none 0 0,.slice none 0 0] 50)).heap.size ((((((((((w.alloc (.cells #[.string ⟨#[98]⟩] 9)).alloc (.cells #[.string ⟨#[110,115]⟩,.string ⟨#[98]⟩] 9)).alloc (.cells #[.slice (some ⟨w.heap.size+1,0,none⟩) 2 2] 23)).alloc (.cells #[.slice (some ⟨w.heap.size,0,none⟩) 1 1,.int .u16 2,.int .u16 1,.int .u32 3600,.slice (some ⟨w.heap.size+1+1,0,none⟩) 1 1,.slice none 0 0,.slice none 0 0,.slice none 0 0] 50)).alloc (.cells #[.string ⟨#[98]⟩] 9)).alloc (.cells #[.string ⟨#[110,115]⟩,.string ⟨#[98]⟩] 9)).alloc (.cells #[.string ⟨#[104]⟩,.string ⟨#[98]⟩] 9)).alloc (.cells #[.slice (some ⟨w.heap.size+1+1+1+1+1,0,none⟩) 2 2,.slice (some ⟨w.heap.size+1+1+1+1+1+1,0,none⟩) 2 2] 23)).alloc (.cells #[.int .u32 1,.int .u32 2,.int .u32 3,.int .u32 4,.int .u32 5] 43)).alloc (.cells #[.slice (some ⟨w.heap.size+1+1+1+1,0,none⟩) 1 1,.int .u16 6,.int .u16 1,.int .u32 5,.slice (some ⟨w.heap.size+1+1+1+1+1+1+1,0,none⟩) 2 2,.slice (some ⟨w.heap.size+1+1+1+1+1+1+1+1,0,none⟩) 5 5,.slice none 0 0,.slice none 0 0] 50)) v1):=⟨HW.out.1.trans (H1.out.mono HW.out.1.size),HW.out.2.trans (H1.out.mono HW.out.2.size)⟩
 have HC:Hid (v1.heap[w.heap.size+1+1+1+1+1+1+1+1+1]?=some (.cells #[.slice (some ⟨w.heap.size+1+1+1+1,0,none⟩) 1 1,.int .u16 6,.int .u16 1,.int .u32 5,.slice (some ⟨w.heap.size+1+1+1+1+1+1+1,0,none⟩) 2 2,.slice (some ⟨w.heap.size+1+1+1+1+1+1+1+1,0,none⟩) 5 5,.slice none 0 0,.slice none 0 0] 50)/\RRd v1 ⟨⟨some ⟨w.heap.size+1+1+1+1,0,none⟩,1,1⟩,⟨⟨some ⟨w.heap.size+1+1+1+1+1+1+1,0,none⟩,2,2⟩,⟨some ⟨w.heap.size+1+1+1+1+1+1+1+1,0,none⟩,5,5⟩,⟨none,0,0⟩,⟨none,0,0⟩⟩⟩ soaR):=⟨(HX.out.2.block _ (block_lt HS.out.2.2.2.2)).trans HS.out.2.2.2.2,HS.out.2.2.1.below HX.out.2⟩
 clear HS HW K1 H1
 have q0:=cell_of_block (i:=0) HC.out.1 rfl
 have q1:=cell_of_block (i:=1) HC.out.1 rfl
 have q2:=cell_of_block (i:=2) HC.out.1 rfl
 have q3:=cell_of_block (i:=3) HC.out.1 rfl
 have q4:=cell_of_block (i:=4) HC.out.1 rfl
 have q5:=cell_of_block (i:=5) HC.out.1 rfl
 have q6:=cell_of_block (i:=6) HC.out.1 rfl
 have q7:=cell_of_block (i:=7) HC.out.1 rfl
 have ql:=block_lt HC.out.1
 have B2:Hid (Below w.heap.size w (v1.alloc (.cells #[.slice (some ⟨w.heap.size+1+1+1+1,0,none⟩) 1 1,.int .u16 6,.int .u16 1,.int .u32 5,.slice (some ⟨w.heap.size+1+1+1+1+1+1+1,0,none⟩) 2 2,.slice (some ⟨w.heap.size+1+1+1+1+1+1+1+1,0,none⟩) 5 5,.slice none 0 0,.slice none 0 0] 50))):=HX.out.1.trans ((new_below _ _).mono HX.out.1.size)
 have K2:Hid (Calls Tryz.prog 15 #[.string ⟨#[64,32,83,79,65,32,110,115,32,104,32,49,32,50,32,51,32,52,32,53]⟩,.slice (some ⟨v1.heap.size,0,none⟩) 1 1] (v1.alloc (.cells #[.slice (some ⟨w.heap.size+1+1+1+1,0,none⟩) 1 1,.int .u16 6,.int .u16 1,.int .u32 5,.slice (some ⟨w.heap.size+1+1+1+1+1+1+1,0,none⟩) 2 2,.slice (some ⟨w.heap.size+1+1+1+1+1+1+1+1,0,none⟩) 5 5,.slice none 0 0,.slice none 0 0] 50)) fun e w'=>e=.returned (.bool true)/\Hid (Below (v1.alloc (.cells #[.slice (some ⟨w.heap.size+1+1+1+1,0,none⟩) 1 1,.int .u16 6,.int .u16 1,.int .u32 5,.slice (some ⟨w.heap.size+1+1+1+1+1+1+1,0,none⟩) 2 2,.slice (some ⟨w.heap.size+1+1+1+1+1+1+1+1,0,none⟩) 5 5,.slice none 0 0,.slice none 0 0] 50)).heap.size (v1.alloc (.cells #[.slice (some ⟨w.heap.size+1+1+1+1,0,none⟩) 1 1,.int .u16 6,.int .u16 1,.int .u32 5,.slice (some ⟨w.heap.size+1+1+1+1+1+1+1,0,none⟩) 2 2,.slice (some ⟨w.heap.size+1+1+1+1+1+1+1+1,0,none⟩) 5 5,.slice none 0 0,.slice none 0 0] 50)) w')):=reads15 _ ⟨some ⟨v1.heap.size,0,none⟩,1,1⟩ [soaR] (v1.alloc (.cells #[.slice (some ⟨w.heap.size+1+1+1+1,0,none⟩) 1 1,.int .u16 6,.int .u16 1,.int .u32 5,.slice (some ⟨w.heap.size+1+1+1+1+1+1+1,0,none⟩) 2 2,.slice (some ⟨w.heap.size+1+1+1+1+1+1+1+1,0,none⟩) 5 5,.slice none 0 0,.slice none 0 0] 50)) (lrd_one HC.out.2) ex_soa (H.out _ B2.out).2 (H.out _ B2.out).1
 clear HX HC
 go_wp2_with fail
 refine K2.out.mono ?_
 rintro e v2 ⟨rfl,H2⟩
 have B3:Hid (Below w.heap.size w v2):=B2.out.trans (H2.out.mono B2.out.size)
 clear H2 B2 K2 q0 q1 q2 q3 q4 q5 q6 q7 ql
 have K3:Hid (Calls Tryz.prog 15 #[.string ⟨#[]⟩,.slice none 0 0] v2 fun e w'=>e=.returned (.bool true)/\Hid (Below v2.heap.size v2 w')):=reads15 _ ⟨none,0,0⟩ [] v2 ⟨.inl rfl,rfl,by decide⟩ ex_none (H.out _ B3.out).2 (H.out _ B3.out).1
 go_wp2_with fail
 refine K3.out.mono ?_
 rintro e v3 ⟨rfl,H3⟩
 have B4:Hid (Below w.heap.size w v3):=B3.out.trans (H3.out.mono B3.out.size)
 clear H3 B3 K3
 have HV:Hid (Below w.heap.size w ((v3.alloc (.cells #[.string ⟨#[97,32,65,32,49,46,50,46,51,46,52]⟩,.string ⟨#[32,65,32,49,46,50,46,51,46,52]⟩,.string ⟨#[97,32,54,48,32,54,48,32,65,32,49,46,50,46,51,46,52]⟩,.string ⟨#[97,32,54,48,32,73,78,32,67,72,32,65,32,49,46,50,46,51,46,52]⟩,.string ⟨#[97,32,54,48]⟩,.string ⟨#[36,70,79,79,32,120]⟩,.string ⟨#[97,32,54,48,32,70,79,79,32,120]⟩,.string ⟨#[97,32,54,48,32,65,78,89,32,120]⟩,.string ⟨#[97,32,54,48,32,65,32,49,46,50,46,51]⟩] 9)).alloc (.cells #[.int .i64 9,.int .i64 9,.int .i64 240,.int .i64 240,.int .i64 240,.int .i64 240,.int .i64 6,.int .i64 6,.int .i64 7] 26))/\((v3.alloc (.cells #[.string ⟨#[97,32,65,32,49,46,50,46,51,46,52]⟩,.string ⟨#[32,65,32,49,46,50,46,51,46,52]⟩,.string ⟨#[97,32,54,48,32,54,48,32,65,32,49,46,50,46,51,46,52]⟩,.string ⟨#[97,32,54,48,32,73,78,32,67,72,32,65,32,49,46,50,46,51,46,52]⟩,.string ⟨#[97,32,54,48]⟩,.string ⟨#[36,70,79,79,32,120]⟩,.string ⟨#[97,32,54,48,32,70,79,79,32,120]⟩,.string ⟨#[97,32,54,48,32,65,78,89,32,120]⟩,.string ⟨#[97,32,54,48,32,65,32,49,46,50,46,51]⟩] 9)).alloc (.cells #[.int .i64 9,.int .i64 9,.int .i64 240,.int .i64 240,.int .i64 240,.int .i64 240,.int .i64 6,.int .i64 6,.int .i64 7] 26)).heap[v3.heap.size]?=some (.cells #[.string ⟨#[97,32,65,32,49,46,50,46,51,46,52]⟩,.string ⟨#[32,65,32,49,46,50,46,51,46,52]⟩,.string ⟨#[97,32,54,48,32,54,48,32,65,32,49,46,50,46,51,46,52]⟩,.string ⟨#[97,32,54,48,32,73,78,32,67,72,32,65,32,49,46,50,46,51,46,52]⟩,.string ⟨#[97,32,54,48]⟩,.string ⟨#[36,70,79,79,32,120]⟩,.string ⟨#[97,32,54,48,32,70,79,79,32,120]⟩,.string ⟨#[97,32,54,48,32,65,78,89,32,120]⟩,.string ⟨#[97,32,54,48,32,65,32,49,46,50,46,51]⟩] 9)/\((v3.alloc (.cells #[.string ⟨#[97,32,65,32,49,46,50,46,51,46,52]⟩,.string ⟨#[32,65,32,49,46,50,46,51,46,52]⟩,.string ⟨#[97,32,54,48,32,54,48,32,65,32,49,46,50,46,51,46,52]⟩,.string ⟨#[97,32,54,48,32,73,78,32,67,72,32,65,32,49,46,50,46,51,46,52]⟩,.string ⟨#[97,32,54,48]⟩,.string ⟨#[36,70,79,79,32,120]⟩,.string ⟨#[97,32,54,48,32,70,79,79,32,120]⟩,.string ⟨#[97,32,54,48,32,65,78,89,32,120]⟩,.string ⟨#[97,32,54,48,32,65,32,49,46,50,46,51]⟩] 9)).alloc (.cells #[.int .i64 9,.int .i64 9,.int .i64 240,.int .i64 240,.int .i64 240,.int .i64 240,.int .i64 6,.int .i64 6,.int .i64 7] 26)).heap[v3.heap.size+1]?=some (.cells #[.int .i64 9,.int .i64 9,.int .i64 240,.int .i64 240,.int .i64 240,.int .i64 240,.int .i64 6,.int .i64 6,.int .i64 7] 26)):=(by
  have a1:=new_below v3 (.cells #[.string ⟨#[97,32,65,32,49,46,50,46,51,46,52]⟩,.string ⟨#[32,65,32,49,46,50,46,51,46,52]⟩,.string ⟨#[97,32,54,48,32,54,48,32,65,32,49,46,50,46,51,46,52]⟩,.string ⟨#[97,32,54,48,32,73,78,32,67,72,32,65,32,49,46,50,46,51,46,52]⟩,.string ⟨#[97,32,54,48]⟩,.string ⟨#[36,70,79,79,32,120]⟩,.string ⟨#[97,32,54,48,32,70,79,79,32,120]⟩,.string ⟨#[97,32,54,48,32,65,78,89,32,120]⟩,.string ⟨#[97,32,54,48,32,65,32,49,46,50,46,51]⟩] 9)
  have a2:=new_below (v3.alloc (.cells #[.string ⟨#[97,32,65,32,49,46,50,46,51,46,52]⟩,.string ⟨#[32,65,32,49,46,50,46,51,46,52]⟩,.string ⟨#[97,32,54,48,32,54,48,32,65,32,49,46,50,46,51,46,52]⟩,.string ⟨#[97,32,54,48,32,73,78,32,67,72,32,65,32,49,46,50,46,51,46,52]⟩,.string ⟨#[97,32,54,48]⟩,.string ⟨#[36,70,79,79,32,120]⟩,.string ⟨#[97,32,54,48,32,70,79,79,32,120]⟩,.string ⟨#[97,32,54,48,32,65,78,89,32,120]⟩,.string ⟨#[97,32,54,48,32,65,32,49,46,50,46,51]⟩] 9)) (.cells #[.int .i64 9,.int .i64 9,.int .i64 240,.int .i64 240,.int .i64 240,.int .i64 240,.int .i64 6,.int .i64 6,.int .i64 7] 26)
  have a3:=alloc_at (v3.alloc (.cells #[.string ⟨#[97,32,65,32,49,46,50,46,51,46,52]⟩,.string ⟨#[32,65,32,49,46,50,46,51,46,52]⟩,.string ⟨#[97,32,54,48,32,54,48,32,65,32,49,46,50,46,51,46,52]⟩,.string ⟨#[97,32,54,48,32,73,78,32,67,72,32,65,32,49,46,50,46,51,46,52]⟩,.string ⟨#[97,32,54,48]⟩,.string ⟨#[36,70,79,79,32,120]⟩,.string ⟨#[97,32,54,48,32,70,79,79,32,120]⟩,.string ⟨#[97,32,54,48,32,65,78,89,32,120]⟩,.string ⟨#[97,32,54,48,32,65,32,49,46,50,46,51]⟩] 9)) (.cells #[.int .i64 9,.int .i64 9,.int .i64 240,.int .i64 240,.int .i64 240,.int .i64 240,.int .i64 6,.int .i64 6,.int .i64 7] 26)
  rw[World.size_alloc] at a3
  exact ⟨B4.out.trans ((a1.trans (a2.mono a1.size)).mono B4.out.size),block_alloc (alloc_at _ _) _,a3⟩)
 clear B4
 go_upto_region 8 with (fail)
 generalize ((v3.alloc (.cells #[.string ⟨#[97,32,65,32,49,46,50,46,51,46,52]⟩,.string ⟨#[32,65,32,49,46,50,46,51,46,52]⟩,.string ⟨#[97,32,54,48,32,54,48,32,65,32,49,46,50,46,51,46,52]⟩,.string ⟨#[97,32,54,48,32,73,78,32,67,72,32,65,32,49,46,50,46,51,46,52]⟩,.string ⟨#[97,32,54,48]⟩,.string ⟨#[36,70,79,79,32,120]⟩,.string ⟨#[97,32,54,48,32,70,79,79,32,120]⟩,.string ⟨#[97,32,54,48,32,65,78,89,32,120]⟩,.string ⟨#[97,32,54,48,32,65,32,49,46,50,46,51]⟩] 9)).alloc (.cells #[.int .i64 9,.int .i64 9,.int .i64 240,.int .i64 240,.int .i64 240,.int .i64 240,.int .i64 6,.int .i64 6,.int .i64 7] 26))=v5 at*
 go_loopw [5] (fun y wr=>∃k:Nat,k<=9/\y=.int .i64 (k:Int)/\Hid (Below v5.heap.size v5 wr)) (fun y _=>9 - (intOf y).toNat)
 case atStart=>exact ⟨0,Nat.zero_le _,rfl,Below.refl _ _⟩
 case round=>
  obtain ⟨k,hk,rfl,HR⟩:=hrel
  have HBR:Hid (Below w.heap.size w wr):=HV.out.1.trans (HR.out.mono HV.out.1.size)
  by_cases hlt:k<9
  ·have hlt':(k:Int)<9:=by omega
   obtain ⟨s,er,hs,he,hm,hsz⟩:=k_at k hlt
   have d0:wr.cell? ⟨v3.heap.size,k,none⟩=some (.string s):=(HR.out.cell (p:=⟨v3.heap.size,k,none⟩) (block_lt HV.out.2.1)).trans (cell_of_block HV.out.2.1 hs)
   have l0:v3.heap.size<wr.heap.size:=Nat.lt_of_lt_of_le (block_lt HV.out.2.1) HR.out.size
   have l1:v3.heap.size+1<wr.heap.size:=Nat.lt_of_lt_of_le (block_lt HV.out.2.2) HR.out.size
   have HE1:Hid (∀W,Below wr.heap.size wr W->W.cell? ⟨v3.heap.size+1,k,none⟩=some (.int .i64 er)):=fun W hW=>(hW.cell (p:=⟨v3.heap.size+1,k,none⟩) l1).trans ((HR.out.cell (p:=⟨v3.heap.size+1,k,none⟩) (block_lt HV.out.2.2)).trans (cell_of_block HV.out.2.2 he))
   have hB:Hid (Below w.heap.size w (wr.alloc (.cells #[.string ⟨#[98]⟩] 9))/\Below wr.heap.size wr (wr.alloc (.cells #[.string ⟨#[98]⟩] 9))):=⟨HBR.out.trans ((new_below _ _).mono HBR.out.size),new_below _ _⟩
   have K8:Hid (Calls Tryz.prog 8 #[.string (⟨#[10]⟩++s),.slice (some ⟨wr.heap.size,0,none⟩) 1 1] (wr.alloc (.cells #[.string ⟨#[98]⟩] 9)) (AlP (.er er 2) (wr.alloc (.cells #[.string ⟨#[98]⟩] 9)))):=(by
    have:=parse_any8 (⟨#[10]⟩++s) (some ⟨wr.heap.size,0,none⟩) 1 1 nmX (wr.alloc (.cells #[.string ⟨#[98]⟩] 9)) (nm_b wr) (H.out _ hB.out.1).2 (H.out _ hB.out.1).1
    rw[hm] at this
    exact this)
   have hcat:∀W,(Op.stringOp .add ⟨#[10]⟩ s).run Tryz.prog W=.ok (.string (⟨#[10]⟩++s)) W:=fun W=>run_string_add_sum (P:=Tryz.prog) W ⟨#[10]⟩ s (by have:=hsz;have e:(⟨#[10]⟩:ByteArray).size=1:=rfl;omega)
   clear hs he hm hsz
   go_wp2_with fail
   refine K8.out.mono ?_
   rintro e v6 ⟨y,a,b,rfl,HB6,HQ⟩
   obtain ⟨rfl,rfl,rfl⟩:=HQ.out
   have HBB:Hid (Below wr.heap.size wr (v6.alloc (.cells #[.int .i64 a,.int .i64 2] 28))):=by
    have h1:=hB.out.2.trans (HB6.out.mono hB.out.2.size)
    exact h1.trans ((new_below _ _).mono h1.size)
   have d1:=HE1.out _ HBB.out
   have hq:∀W,(binOp .neq 28 (.agg #[.int .i64 a,.int .i64 2]) (.agg #[.int .i64 a,.int .i64 2])).run Tryz.prog W=.ok (.bool false) W:=fun W=>by rw[neqF28];simp
   have HBF:Hid (∀m,Below v5.heap.size v5 ((v6.alloc (.cells #[.int .i64 a,.int .i64 2] 28)).drewN m)):=fun m=>HR.out.trans ((HBB.out.mono HR.out.size).trans ⟨rfl,rfl,rfl,Nat.le_refl _,fun _ _=>rfl⟩)
   have l2:v3.heap.size+1<(v6.alloc (.cells #[.int .i64 a,.int .i64 2] 28)).heap.size:=Nat.lt_of_lt_of_le l1 HBB.out.size
   clear K8 HQ HB6 HBB hB HE1 HV HBR H HR
   go_wp2_with fail
   go_quiet (fail)
   go_wp2_with fail
   exact ⟨⟨k+1,by omega,by go_num,HBF.out _⟩,by simp[intOf];omega⟩
  ·obtain rfl:k=9:=by omega
   clear HV HR
   have T1:Hid (Calls Tryz.prog 16 #[.string ⟨#[49,119,50,100]⟩] wr fun e w'=>e=.returned (.tuple #[.int .u32 777600,.int .i64 0])/\Hid (Below wr.heap.size wr w')):=ttl_ok ex_t1 (by decide) wr (H.out _ HBR.out).2 (H.out _ HBR.out).1
   go_wp2_with fail
   refine T1.out.mono ?_
   rintro e v7 ⟨rfl,H7⟩
   have B7:Hid (Below w.heap.size w v7):=HBR.out.trans (H7.out.mono HBR.out.size)
   clear T1 H7 HBR
   have T2:Hid (Calls Tryz.prog 16 #[.string ⟨#[57,48]⟩] v7 fun e w'=>e=.returned (.tuple #[.int .u32 90,.int .i64 0])/\Hid (Below v7.heap.size v7 w')):=ttl_ok ex_t2 (by decide) v7 (H.out _ B7.out).2 (H.out _ B7.out).1
   go_wp2_with fail
   refine T2.out.mono ?_
   rintro e v8 ⟨rfl,H8⟩
   have B8:Hid (Below w.heap.size w (v8.alloc (.cells #[.string ⟨#[49,100,49,119]⟩,.string ⟨#[49,104,49,104]⟩,.string ⟨#[48,57,48]⟩,.string ⟨#[]⟩,.string ⟨#[104]⟩,.string ⟨#[50,49,52,55,52,56,51,54,52,56]⟩] 9))/\(v8.alloc (.cells #[.string ⟨#[49,100,49,119]⟩,.string ⟨#[49,104,49,104]⟩,.string ⟨#[48,57,48]⟩,.string ⟨#[]⟩,.string ⟨#[104]⟩,.string ⟨#[50,49,52,55,52,56,51,54,52,56]⟩] 9)).heap[v8.heap.size]?=some (.cells #[.string ⟨#[49,100,49,119]⟩,.string ⟨#[49,104,49,104]⟩,.string ⟨#[48,57,48]⟩,.string ⟨#[]⟩,.string ⟨#[104]⟩,.string ⟨#[50,49,52,55,52,56,51,54,52,56]⟩] 9)):=by
    have h1:=B7.out.trans (H8.out.mono B7.out.size)
    exact ⟨h1.trans ((new_below _ _).mono h1.size),alloc_at _ _⟩
   clear T2 H8 B7
   go_upto_region 16 with (fail)
   generalize (v8.alloc (.cells #[.string ⟨#[49,100,49,119]⟩,.string ⟨#[49,104,49,104]⟩,.string ⟨#[48,57,48]⟩,.string ⟨#[]⟩,.string ⟨#[104]⟩,.string ⟨#[50,49,52,55,52,56,51,54,52,56]⟩] 9))=v9 at*
   go_loopw [82] (fun y wr=>∃k:Nat,k<=6/\y=.int .i64 (k:Int)/\Hid (Below v9.heap.size v9 wr)) (fun y _=>6 - (intOf y).toNat)
   case atStart=>exact ⟨0,Nat.zero_le _,rfl,Below.refl _ _⟩
   case round=>
    obtain ⟨k,hk,rfl,HR⟩:=hrel
    have HBR:Hid (Below w.heap.size w wr):=B8.out.1.trans (HR.out.mono B8.out.1.size)
    by_cases hlt:k<6
    ·have hlt':(k:Int)<6:=by omega
     obtain ⟨s,hs,hm,hsz⟩:=t_at k hlt
     have d0:wr.cell? ⟨v8.heap.size,k,none⟩=some (.string s):=(HR.out.cell (p:=⟨v8.heap.size,k,none⟩) (block_lt B8.out.2)).trans (cell_of_block B8.out.2 hs)
     have l0:v8.heap.size<wr.heap.size:=Nat.lt_of_lt_of_le (block_lt B8.out.2) HR.out.size
     have T3:Hid (Calls Tryz.prog 16 #[.string s] wr fun e w'=>e=.returned (.tuple #[.int .u32 0,.int .i64 240])/\Hid (Below wr.heap.size wr w')):=ttl_no hm (by omega) wr (H.out _ HBR.out).2 (H.out _ HBR.out).1
     clear hs hm hsz H HBR B8
     go_wp2_with fail
     refine T3.out.mono ?_
     rintro e u ⟨rfl,HU⟩
     have HBU:Hid (Below v9.heap.size v9 u):=HR.out.trans (HU.out.mono HR.out.size)
     clear T3 HU HR
     go_wp2_with fail
     exact ⟨⟨k+1,by omega,by go_num,HBU.out⟩,by simp[intOf];omega⟩
    ·obtain rfl:k=6:=by omega
     clear B8 HR
     have KW:Hid (Calls Tryz.prog 7 #[] wr fun e w'=>e=.returned (.bool true)/\Hid (Below wr.heap.size wr w')):=awake7 wr (H.out _ HBR.out).2 (H.out _ HBR.out).1
     go_wp2_with fail
     refine KW.out.mono ?_
     rintro e u ⟨rfl,HU⟩
     have HBU:Hid (Below w.heap.size w u):=HBR.out.trans (HU.out.mono HBR.out.size)
     clear KW HU HBR H
     go_wp2_with fail
     go_ret
     exact ⟨rfl,HBU.out⟩
theorem d_own:ownKnob Tryz.prog.godebug=none:=by kernel_rfl
theorem tPow:(Tryz.prog.globals[8]?).map (·.type)=some 264:=by kernel_rfl
theorem tLen:(Tryz.prog.globals[1]?).map (·.type)=some 134:=by kernel_rfl
theorem tSp:(Tryz.prog.globals[7]?).map (·.type)=some 174:=by kernel_rfl
theorem tSyn:(Tryz.prog.globals[5]?).map (·.type)=some 68:=by kernel_rfl
theorem tRng:(Tryz.prog.globals[6]?).map (·.type)=some 68:=by kernel_rfl
theorem c5:Tryz.prog.cellsOf 5=1:=by kernel_rfl
theorem c174:Tryz.prog.cellsOf 174=256:=by kernel_rfl
theorem c130:Tryz.prog.cellsOf 130=1:=by kernel_rfl
theorem c264:Tryz.prog.cellsOf 264=20:=by kernel_rfl
theorem c134:Tryz.prog.cellsOf 134=5:=by kernel_rfl
theorem c229:Tryz.prog.cellsOf 229=1:=by kernel_rfl
theorem c9:Tryz.prog.cellsOf 9=1:=by kernel_rfl
theorem d_star : "*" ++ "errors.errorString" = "*errors.errorString" := by decide
theorem row227 (u : TypeId) (h : Tryz.prog.typeName? 3 u = some "*errors.errorString") : u = 227 :=
  typeName_ptr_named (nm := "errors.errorString") (by rw [d_star]; kernel_rfl) (by kernel_rfl) (by decide) u (by rw [d_star]; exact h)
theorem powD:(Rows.laid_internal_strconv_uint64pow10:DataW Unit)=Lib.tabData .u64 Lib.pow10Tab:=by kernel_rfl
theorem lenD:(Rows.laid_nomenclator_master_lengths:DataW Unit)=Lib.tabData .u64 lenTab:=by kernel_rfl
theorem spD:(Rows.laid_strings_asciiSpace:DataW Unit)=Lib.tabData .u8 Lib.asciiSpaceTab:=by kernel_rfl
theorem met_pow {r : List (String × DataW Unit)} {W : World} (h : laidMet Tryz.prog (("internal/strconv.uint64pow10", Rows.laid_internal_strconv_uint64pow10) :: r) W) : Lib.TabIs Tryz.prog W "internal/strconv.uint64pow10" .u64 Lib.pow10Tab := by
  rw [powD] at h
  exact Lib.tabIs_of_head gPow tPow Tryz.underlying264 Tryz.underlying130 c130 c264 h
theorem met_len {r : List (String × DataW Unit)} {W : World} (h : laidMet Tryz.prog (("nomenclator/master.lengths", Rows.laid_nomenclator_master_lengths) :: r) W) : Lib.TabIs Tryz.prog W "nomenclator/master.lengths" .u64 lenTab := by
  rw [lenD] at h
  exact Lib.tabIs_of_head gLen tLen Tryz.underlying134 Tryz.underlying130 c130 c134 h
theorem met_sp {r : List (String × DataW Unit)} {W : World} (h : laidMet Tryz.prog (("strings.asciiSpace", Rows.laid_strings_asciiSpace) :: r) W) : Lib.TabIs Tryz.prog W "strings.asciiSpace" .u8 Lib.asciiSpaceTab := by
  rw [spD] at h
  exact Lib.tabIs_of_head gSp tSp Tryz.underlying174 Tryz.underlying5 c5 c174 h
theorem met_rng {r : List (String × DataW Unit)} {W : World} (h : laidMet Tryz.prog (("strconv.ErrRange", Rows.laid_strconv_ErrRange) :: r) W) : ∃ tp p, W.var? Tryz.prog "strconv.ErrRange" = some #[.iface tp p] := by
  obtain ⟨a, s, hv, -, -, -⟩ := laid_sentinel h gRng tRng Tryz.underlying68 row227 Tryz.underlying227 Tryz.underlying229 rfl rfl Tryz.underlying9 c229 c9
  exact ⟨_, _, hv⟩
theorem met_syn {r : List (String × DataW Unit)} {W : World} (h : laidMet Tryz.prog (("strconv.ErrSyntax", Rows.laid_strconv_ErrSyntax) :: r) W) : ∃ tp p, W.var? Tryz.prog "strconv.ErrSyntax" = some #[.iface tp p] := by
  obtain ⟨a, s, hv, -, -, -⟩ := laid_sentinel h gSyn tSyn Tryz.underlying68 row227 Tryz.underlying227 Tryz.underlying229 rfl rfl Tryz.underlying9 c229 c9
  exact ⟨_, _, hv⟩
theorem met_max{W:World}(h:W.ShapedOpen Tryz.prog):0<W.heap.size/\∃m,W.cell? ⟨0,0,none⟩=some (.int .i64 m):=by
 have h0:((begin Tryz.prog (fun _ _=>0) default).world.heap[0]?).bind Obj.row?=some (#[.int .i64 0],3):=by kernel_rfl
 have hb:Tryz.prog.buildable 3=true:=by kernel_rfl
 have hc:Tryz.prog.cellTypes Tryz.prog.depth 3=some [3]:=by kernel_rfl
 have hg:0<Tryz.prog.globals.size:=of_decide_eq_true (by kernel_rfl)
 obtain ⟨cs,hh,hs,hr⟩:=h.1 0 #[.int .i64 0] 3 hg h0
 refine ⟨(Array.getElem?_eq_some_iff.1 hh).1,?_⟩
 obtain ⟨ts,hts,hlen,hall⟩:=hr hb
 rw[hc] at hts
 cases hts
 have h1:0<cs.size:=by rw[hs];decide
 obtain ⟨u,hu',hok⟩:=hall 0 cs[0] (by simp[h1])
 have hu:u=3:=(Option.some.inj hu').symm
 have hcell:W.cell? ⟨0,0,none⟩=some cs[0]:=by simp[World.cell?,hh,h1]
 rw[hcell]
 unfold Cell.ok at hok
 rw[hu,Tryz.underlying3] at hok
 cases hv:cs[0] <;> rw[hv] at hok <;> first|simp at hok;done|skip
 all_goals (simp at hok;obtain ⟨rfl,_⟩:=hok;exact ⟨_,rfl⟩)
abbrev laid10 : List (String × DataW Unit) := [("math/bits.deBruijn32tab", Rows.laid_math_bits_deBruijn32tab), ("math/bits.deBruijn64tab", Rows.laid_math_bits_deBruijn64tab), ("internal/strconv.uint64pow10", Rows.laid_internal_strconv_uint64pow10), ("unicode/utf8.acceptRanges", Rows.laid_unicode_utf8_acceptRanges), ("strconv.ErrRange", Rows.laid_strconv_ErrRange), ("strconv.ErrSyntax", Rows.laid_strconv_ErrSyntax), ("unicode.White_Space", Rows.laid_unicode_White_Space), ("strings.asciiSpace", Rows.laid_strings_asciiSpace), ("nomenclator/master.lengths", Rows.laid_nomenclator_master_lengths), ("unicode/utf8.first", Rows.laid_unicode_utf8_first)]
theorem plain10:(laid10.all fun x=>x.2.handleName?.isNone)=true:=by kernel_rfl
theorem lay10{W:World}(h:laidMetH Tryz.prog laid10 W)(hs:W.ShapedOpen Tryz.prog):LayT W/\LayE W:=by
 rw[MakeChecks.laidMetH_plain _ _ _ plain10] at h
 exact ⟨⟨met_pow h.tail.tail,met_sp h.tail.tail.tail.tail.tail.tail.tail,met_len h.tail.tail.tail.tail.tail.tail.tail.tail⟩,met_syn h.tail.tail.tail.tail.tail,met_rng h.tail.tail.tail.tail,met_max hs⟩
theorem all_met10(os:Os)(args:Array Value):laidMetH Tryz.prog laid10 ((World.laidAll Tryz.prog os laid10).forCall (fun _ _=>0) ⟨#[],args,[]⟩).memory:=by
 rw[MakeChecks.laidMetH_plain _ _ _ plain10]
 exact laidMet_laidAll args (by kernel_rfl) (by kernel_rfl)
end Go.Proofs.YtjkljpdolhglcaaGreatDoor
