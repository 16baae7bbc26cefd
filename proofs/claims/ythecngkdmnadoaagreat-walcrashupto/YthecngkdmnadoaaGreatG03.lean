/- Texts that were written apart, joined. -/
import Derived.Test.YthecngkdmnadoaaGreatG02
import Derived.RegionTactic
import Derived.BigQuiet
import Derived.Deep.QuietTactic
namespace Go.Proofs.YthecngkdmnadoaaGreat
open Go.RowKit
set_option maxRecDepth 100000
structure FS where
 g:Nat
 cap:Nat
 vs:List (List Nat)
def fsV(x:FS):Value := .slice (some ⟨x.g,0,none⟩) x.vs.length x.cap
def flat(vs:List (List Nat)):List Value:=vs.flatMap (·.map bv)
theorem flat_len(vs:List (List Nat))(h:∀v∈vs,v.length=64):(flat vs).length=vs.length*64:=by
 induction vs with
 |nil=>rfl
 |cons v r ih=>
  have h1:=h v (.head _);have h2:=ih fun x hx=>h x (.tail _ hx)
  simp only[flat,List.flatMap_cons,List.length_append,List.length_map,h1,List.length_cons]at h2 ⊢;omega
def FS.ok(w:World)(x:FS):Prop:=
 (∃cur,w.heap[x.g]?=some (.cells cur 93 (0,0))∧cur.size=x.cap*64∧cur.toList.take (x.vs.length*64)=flat x.vs)∧x.vs.length≤x.cap∧x.cap≤maxLen∧(∀v∈x.vs,v.length=64)∧x.vs≠[]
theorem FS.ok.lt{w:World}{x:FS}(h:x.ok w):x.g<w.heap.size:=by
 obtain⟨⟨cur,hb,_⟩,_⟩:=h;exact(Array.getElem?_eq_some_iff.1 hb).1
theorem FS.ok.same{w w':World}{x:FS}(h:x.ok w)(e:w'.heap[x.g]?=w.heap[x.g]?):x.ok w':=by
 obtain⟨⟨cur,hb,r⟩,s⟩:=h;exact⟨⟨cur,e.trans hb,r⟩,s⟩
theorem FS.ok.row{w:World}{x:FS}(h:x.ok w):w.ownsRow 0 93 64 (fsV x) x.vs.length (flat x.vs):=by
 obtain⟨⟨cur,hb,hs,ht⟩,h1,h2,h3,_⟩:=h;exact⟨flat_len _ h3,.inr ⟨x.g,x.cap,cur,rfl,Nat.zero_le _,hb,h1,h2,hs,ht⟩⟩
structure Sh where
 lb:Nat
 fb:Nat
 L:List (Int×Nat×List (Int×List Nat))
 F:List (Int×Nat×List (Int×FS))
def inV{β:Type}(x:Nat×β):Value := .map (some x.1)
def Sh.lblocks(L:List (Int×Nat×List (Int×List Nat))):List Nat:=L.map (·.2.1)
def Sh.fblocks(F:List (Int×Nat×List (Int×FS))):List Nat:=F.flatMap fun p=>p.2.1::p.2.2.map (·.2.g)
def Sh.blocks(sh:Sh):List Nat:=sh.lb::sh.fb::(Sh.lblocks sh.L++Sh.fblocks sh.F)
structure Held(w:World)(sh:Sh):Prop where
 hl:MapAt .u64 inV w sh.lb sh.L
 hf:MapAt .u64 inV w sh.fb sh.F
 hli:∀p∈sh.L,MapAt .i64 verV w p.2.1 p.2.2∧(∀s∈p.2.2,s.2.length=64)∧p.2.2≠[]
 hfi:∀p∈sh.F,MapAt .i64 fsV w p.2.1 p.2.2∧(∀s∈p.2.2,s.2.ok w)∧p.2.2≠[]
theorem mem_lblocks{L:List (Int×Nat×List (Int×List Nat))}{p:Int×Nat×List (Int×List Nat)}(h:p∈L):p.2.1∈Sh.lblocks L:=List.mem_map.2 ⟨p,h,rfl⟩
theorem mem_fblocks{F:List (Int×Nat×List (Int×FS))}{p:Int×Nat×List (Int×FS)}(h:p∈F):p.2.1∈Sh.fblocks F:=List.mem_flatMap.2 ⟨p,h,.head _⟩
theorem mem_fblocks2{F:List (Int×Nat×List (Int×FS))}{p:Int×Nat×List (Int×FS)}(h:p∈F){s:Int×FS}(hs:s∈p.2.2):s.2.g∈Sh.fblocks F:=List.mem_flatMap.2 ⟨p,h,.tail _ (List.mem_map.2 ⟨s,hs,rfl⟩)⟩
theorem Held.same{w w':World}{sh:Sh}(h:Held w sh)(e:∀b∈sh.blocks,w'.heap[b]?=w.heap[b]?):Held w' sh:=by
 refine⟨h.hl.same (e _ (.head _)),h.hf.same (e _ (.tail _ (.head _))),fun p hp=>?_,fun p hp=>?_⟩
 · obtain⟨h1,h2⟩:=h.hli p hp
   exact⟨h1.same (e _ (.tail _ (.tail _ (List.mem_append_left _ (mem_lblocks hp))))),h2⟩
 · obtain⟨h1,h2,h3⟩:=h.hfi p hp
   exact⟨h1.same (e _ (.tail _ (.tail _ (List.mem_append_right _ (mem_fblocks hp))))),fun s hs=>(h2 s hs).same (e _ (.tail _ (.tail _ (List.mem_append_right _ (mem_fblocks2 hp hs))))),h3⟩
theorem Held.lt{w:World}{sh:Sh}(h:Held w sh):∀b∈sh.blocks,b<w.heap.size:=by
 intro b hb;rcases List.mem_cons.1 hb with rfl|hb
 · exact h.hl.lt
 rcases List.mem_cons.1 hb with rfl|hb
 · exact h.hf.lt
 rcases List.mem_append.1 hb with hb|hb
 · obtain⟨p,hp,rfl⟩:=List.mem_map.1 hb
   exact(h.hli p hp).1.lt
 · obtain⟨p,hp,hb⟩:=List.mem_flatMap.1 hb
   rcases List.mem_cons.1 hb with rfl|hb
   · exact(h.hfi p hp).1.lt
   · obtain⟨s,hs,rfl⟩:=List.mem_map.1 hb
     exact((h.hfi p hp).2.1 s hs).lt
structure Sec where
 area:Int
 n:Int
 last:Option (List Nat)
 fresh:List (List Nat)
def Sec.before(s t:Sec):Prop:=s.area<t.area∨(s.area=t.area∧s.n<t.n)
def findS(a n:Int):List Sec→Option Sec
 |[]=>none
 |s::r=>if s.area=a∧s.n=n then some s else findS a n r
def Sec.cur(s:Sec):Option (List Nat):=match s.fresh.getLast? with|some v=>some v|none=>s.last
def lget(sh:Sh)(a n:Int):Option (List Nat):=(mget a sh.L).bind fun x=>mget n x.2
def fget(sh:Sh)(a n:Int):List (List Nat):=match (mget a sh.F).bind fun x=>mget n x.2 with|some x=>x.vs|none=>[]
structure Rep(sh:Sh)(S:List Sec):Prop where
 sorted:S.Pairwise Sec.before
 last:∀a n,lget sh a n=(findS a n S).bind (·.last)
 fresh:∀a n,fget sh a n=((findS a n S).map (·.fresh)).getD []
 there:∀s∈S,s.last≠none∨s.fresh≠[]
structure DS where
 room:Int
 steps:Int
 ahead:Int
 dead:Bool
 armed:Bool
 secs:List Sec
def i64v(n:Int):Value := .int .i64 n
def DiskAt(N:Nat)(w:World)(p:Nat)(d:DS)(fp:List Nat):Prop:=
 ∃sh:Sh,w.heap[p]?=some (.cells #[.int .i64 d.room,.int .i64 (d.secs.length:Int),.int .i64 d.steps,.bool d.dead,.bool d.armed,.int .i64 d.ahead,.map (some sh.lb),.map (some sh.fb)] 73 (0,0)) ∧
  Held w sh∧Rep sh d.secs∧fp=p::sh.blocks∧fp.Nodup∧0≤d.room∧d.room≤9223372036854775807∧0≤d.steps∧d.steps≤N∧d.secs.length≤N∧(d.secs.length:Int)≤d.room∧(∀s∈d.secs,s.fresh.length≤N) ∧
  -9223372036854775808≤d.ahead∧d.ahead≤9223372036854775807∧(d.armed=true→0≤d.ahead)
structure Only(fp:List Nat)(w w':World):Prop where
 os:w'.os=w.os
 tape:w'.tape=w.tape
 output:w'.output=w.output
 size:w.heap.size≤w'.heap.size
 block:∀k,k<w.heap.size→k∉fp→w'.heap[k]?=w.heap[k]?
theorem Only.refl(fp:List Nat)(w:World):Only fp w w:=⟨rfl,rfl,rfl,Nat.le_refl _,fun _ _ _=>rfl⟩
theorem Only.trans{fp fp':List Nat}{a b c:World}(h:Only fp a b)(k:Only fp' b c)(hs:∀x∈fp',x∈fp∨a.heap.size≤x):Only fp a c:=
 ⟨k.os.trans h.os,k.tape.trans h.tape,k.output.trans h.output,Nat.le_trans h.size k.size,fun i hi hr=>(k.block i (Nat.lt_of_lt_of_le hi h.size) (fun hx=>by
  rcases hs i hx with h1|h1
  · exact hr h1
  · omega)).trans (h.block i hi hr)⟩
theorem Only.of_below{fp:List Nat}{w w':World}(h:Below w.heap.size w w'):Only fp w w':=⟨h.os,h.tape,h.output,h.size,fun k hk _=>h.block k hk⟩
theorem Only.of_one{fp:List Nat}{b:Nat}{w w':World}(h:One b w w')(hb:b∈fp):Only fp w w':=⟨h.os,h.tape,h.output,Nat.le_of_eq h.size.symm,fun k _ hk=>h.block k (fun e=>hk (e▸hb))⟩
theorem Only.then{fp fp':List Nat}{a b c:World}(h:Only fp a b)(k:Only fp' b c)(hs:∀x∈fp',x∈fp):Only fp a c:=h.trans k fun x hx => .inl (hs x hx)
theorem Only.below{fp:List Nat}{B:Nat}{w w':World}(h:Only fp w w')(hB:B≤w.heap.size)(hf:∀x∈fp,B≤x):Below B w w':=
 ⟨h.os,h.tape,h.output,h.size,fun k hk=>h.block k (by omega) (fun hx=>by have:=hf k hx;omega)⟩
theorem Only.drew{fp:List Nat}{a w:World}(h:Only fp a w):Only fp a w.drew:=⟨h.os,h.tape,h.output,h.size,h.block⟩
theorem Only.drewN{fp:List Nat}{a w:World}(h:Only fp a w)(n:Nat):Only fp a (w.drewN n):=⟨h.os,h.tape,h.output,h.size,h.block⟩
theorem DiskAt.lt{N:Nat}{w:World}{p:Nat}{d:DS}{fp:List Nat}(h:DiskAt N w p d fp):∀b∈fp,b<w.heap.size:=by
 obtain⟨sh,h1,h2,_,rfl,_⟩:=h;intro b hb;rcases List.mem_cons.1 hb with rfl|hb
 · exact(Array.getElem?_eq_some_iff.1 h1).1
 · exact h2.lt b hb
theorem DiskAt.mem{N:Nat}{w:World}{p:Nat}{d:DS}{fp:List Nat}(h:DiskAt N w p d fp):p∈fp:=by
 obtain⟨sh,h1,h2,_,rfl,_⟩:=h;exact .head _
theorem DiskAt.same{N:Nat}{w w':World}{p:Nat}{d:DS}{fp:List Nat}(h:DiskAt N w p d fp)(e:∀b∈fp,w'.heap[b]?=w.heap[b]?):DiskAt N w' p d fp:=by
 obtain⟨sh,h1,h2,h3,rfl,h5⟩:=h;exact⟨sh,(e p (.head _)).trans h1,h2.same fun b hb=>e b (.tail _ hb),h3,rfl,h5⟩
theorem DiskAt.below{N:Nat}{w w':World}{p:Nat}{d:DS}{fp:List Nat}(h:DiskAt N w p d fp)(hb:Below w.heap.size w w'):DiskAt N w' p d fp:=h.same fun b hx=>hb.block b (h.lt b hx)
theorem DiskAt.apart{N:Nat}{w w':World}{p:Nat}{d:DS}{fp fq:List Nat}(h:DiskAt N w p d fp)(hb:Only fq w w')(hd:∀x∈fp,x∉fq):DiskAt N w' p d fp:=h.same fun b hx=>hb.block b (h.lt b hx) (hd b hx)
theorem DiskAt.mono{N M:Nat}{w:World}{p:Nat}{d:DS}{fp:List Nat}(h:DiskAt N w p d fp)(hm:N≤M):DiskAt M w p d fp:=by
 obtain⟨sh,h1,h2,h3,h4,h5,h6,h7,h8,h9,h10,h11,h12,h13⟩:=h;exact⟨sh,h1,h2,h3,h4,h5,h6,h7,h8,by omega,by omega,h11,fun s hs=>Nat.le_trans (h12 s hs) hm,h13⟩
end Go.Proofs.YthecngkdmnadoaaGreat

namespace Go.Proofs.YthecngkdmnadoaaGreat
open Go.RowKit
set_option maxRecDepth 100000
def dC(r t s:Int)(d a:Bool)(h:Int)(lb fb:Nat):Obj := .cells #[.int .i64 r,.int .i64 t,.int .i64 s,.bool d,.bool a,.int .i64 h,.map (some lb),.map (some fb)] 73 (0,0)
theorem disk_cells{w:World}{p:Nat}{r t s h:Int}{d a:Bool}{lb fb:Nat}(hb:w.heap[p]?=some (dC r t s d a h lb fb)):
 w.cell? ⟨p,0,none⟩=some (.int .i64 r)∧w.cell? ⟨p,1,none⟩=some (.int .i64 t)∧w.cell? ⟨p,2,none⟩=some (.int .i64 s)∧w.cell? ⟨p,3,none⟩=some (.bool d)∧w.cell? ⟨p,4,none⟩=some (.bool a)∧w.cell? ⟨p,5,none⟩=some (.int .i64 h) ∧
 w.cell? ⟨p,6,none⟩=some (.map (some lb))∧w.cell? ⟨p,7,none⟩=some (.map (some fb))∧(∀o,w.frozen? ⟨p,o,none⟩=false):=by
 refine⟨?_,?_,?_,?_,?_,?_,?_,?_,fun o=>?_⟩<;>simp[World.cell?,World.frozen?,hb,dC]
theorem set_cell{w:World}{p:Nat}{C:Array Value}{t:TypeId}{f:Nat×Nat}(h:w.heap[p]?=some (.cells C t f))(o:Nat)(v:Value):(w.setCell ⟨p,o,none⟩ v).heap[p]?=some (.cells (C.setIfInBounds o v) t f):=by
 simp[World.setCell,Array.getElem?_modify,h]
theorem one_setCell(w:World)(p o:Nat)(v:Value):One p w (w.setCell ⟨p,o,none⟩ v):=⟨rfl,rfl,rfl,rfl,by simp[World.setCell],fun k hk=>Below.heap_setCell _ _ _ _ hk⟩
theorem One.trans{p:Nat}{a b c:World}(h:One p a b)(k:One p b c):One p a c:=⟨k.os.trans h.os,k.tape.trans h.tape,k.output.trans h.output,k.drawn.trans h.drawn,k.size.trans h.size,fun i hi=>(k.block i hi).trans (h.block i hi)⟩
set_option maxHeartbeats 1000000 in
theorem Dead_any(N:Nat)(p:Nat)(d:DS)(fp:List Nat)(w:World)(h:DiskAt N w p d fp):
 Calls Tryz.prog 34 #[.pointer (some ⟨p,0,none⟩)] w fun x w'=>x = .returned (.bool d.dead)∧w'=w:=by
 obtain⟨sh,h1,_⟩:=h;obtain⟨c0,c1,c2,c3,c4,c5,c6,c7,hz⟩:=disk_cells h1;clear h1;go_enter Tryz.func34,Tryz.ntmps34;go_wp2;go_ret;exact⟨rfl,rfl⟩
set_option maxHeartbeats 1000000 in
theorem Steps_any(N:Nat)(p:Nat)(d:DS)(fp:List Nat)(w:World)(h:DiskAt N w p d fp):
 Calls Tryz.prog 35 #[.pointer (some ⟨p,0,none⟩)] w fun x w'=>x = .returned (.int .i64 d.steps)∧w'=w:=by
 obtain⟨sh,h1,_⟩:=h;obtain⟨c0,c1,c2,c3,c4,c5,c6,c7,hz⟩:=disk_cells h1;clear h1;go_enter Tryz.func35,Tryz.ntmps35;go_wp2;go_ret;exact⟨rfl,rfl⟩
set_option maxHeartbeats 1000000 in
theorem Room_any(N:Nat)(p:Nat)(d:DS)(fp:List Nat)(w:World)(h:DiskAt N w p d fp):
 Calls Tryz.prog 51 #[.pointer (some ⟨p,0,none⟩)] w fun x w'=>x = .returned (.int .i64 (d.room-d.secs.length))∧∃n,w'=w.drewN n:=by
 obtain⟨sh,h1,_,_,_,_,k1,k2,_,_,_,k3,_⟩:=h;obtain⟨c0,c1,c2,c3,c4,c5,c6,c7,hz⟩:=disk_cells h1;clear h1;generalize d.room=r at *;have k4:(0:Int)≤(d.secs.length:Int):=by omega
 generalize (d.secs.length:Int)=t at *;go_enter Tryz.func51,Tryz.ntmps51;go_wp2;go_quiet (fail);go_wp2;go_ret;exact⟨rfl,_,rfl⟩
theorem DiskAt.cells{N:Nat}{w:World}{p:Nat}{d:DS}{fp:List Nat}(h:DiskAt N w p d fp):∃lb fb,w.heap[p]?=some (dC d.room (d.secs.length:Int) d.steps d.dead d.armed d.ahead lb fb):=by
 obtain⟨sh,hb,_⟩:=h;exact⟨_,_,hb⟩
theorem DiskAt.bounds{N:Nat}{w:World}{p:Nat}{d:DS}{fp:List Nat}(h:DiskAt N w p d fp):0≤d.room∧d.room≤9223372036854775807∧0≤d.steps∧d.steps≤N∧d.secs.length≤N∧(d.secs.length:Int)≤d.room∧(∀s∈d.secs,s.fresh.length≤N) ∧
 -9223372036854775808≤d.ahead∧d.ahead≤9223372036854775807∧(d.armed=true→0≤d.ahead):=by
 obtain⟨sh,_,_,_,_,_,r⟩:=h;exact r
theorem DiskAt.turn{N M:Nat}{w w':World}{p:Nat}{d d':DS}{fp:List Nat}{lb fb:Nat}(h:DiskAt N w p d fp)(hb:w.heap[p]?=some (dC d.room (d.secs.length:Int) d.steps d.dead d.armed d.ahead lb fb))(ho:One p w w')
 (hb':w'.heap[p]?=some (dC d'.room (d'.secs.length:Int) d'.steps d'.dead d'.armed d'.ahead lb fb)) (hs:d'.secs=d.secs) (hr:d'.room=d.room) (hN:N≤M) (h0:0≤d'.steps) (h1:d'.steps≤M) (h2 : -9223372036854775808≤d'.ahead) (h3:d'.ahead≤9223372036854775807) (h4:d'.armed=true→0≤d'.ahead):DiskAt M w' p d' fp:=by
 obtain⟨sh,k1,k2,k3,rfl,k5,k6,k7,k8,k9,k10,k11,k12,k13⟩:=h;rw[k1]at hb;simp only[dC,Option.some.injEq,Obj.cells.injEq,Array.mk.injEq,List.cons.injEq,Value.map.injEq,and_true,true_and]at hb;obtain⟨rfl,rfl⟩:=hb;have hn:=List.nodup_cons.1 k5;exact⟨sh,hb',k2.same fun b hb=>ho.block b fun e=>hn.1 (e▸hb),hs▸k3,rfl,k5,hr▸k6,hr▸k7,h0,h1,by rw[hs];omega,by rw[hs,hr];exact k11,by rw[hs];exact fun s hs=>Nat.le_trans (k12 s hs) hN,h2,h3,h4⟩
set_option maxHeartbeats 1000000 in
theorem Arm_any(N:Nat)(p:Nat)(d:DS)(fp:List Nat)(at_:Int)(w:World)(h:DiskAt N w p d fp)(h1 : -9223372036854775808≤at_)(h2:at_≤9223372036854775807):
 Calls Tryz.prog 32 #[.pointer (some ⟨p,0,none⟩),.int .i64 at_] w fun x w'=>x = .returned (.tuple #[])∧DiskAt N w' p (if d.dead then d else { d with armed:=decide (0≤at_),ahead:=at_ }) fp∧Only fp w w':=by
 have HD:Hid (DiskAt N w p d fp):=h;obtain⟨lb,fb,hb⟩:=h.cells;obtain⟨c0,c1,c2,c3,c4,c5,c6,c7,hz⟩:=disk_cells hb;have HB:Hid (w.heap[p]?=some (dC d.room (d.secs.length:Int) d.steps d.dead d.armed d.ahead lb fb)):=hb;clear hb h;cases hd:d.dead with
 |true=>
  rw[hd]at c3;go_enter Tryz.func32,Tryz.ntmps32;go_wp2
  (try simp only[Exit.inBlock,Exit.then]);refine bodyPost_ret (results_none rfl _ _ _) rfl ?_
  exact⟨rfl,by simpa using HD.out,Only.refl _ _⟩
 |false=>
  rw[hd]at c3;have HX:Hid (d.dead=false):=hd;clear hd;go_enter Tryz.func32,Tryz.ntmps32;go_wp2
  go_end0
  have ho:One p w ((w.setCell ⟨p,4,none⟩ (.bool (decide (0≤at_)))).setCell ⟨p,5,none⟩ (.int .i64 at_)):=(one_setCell _ _ _ _).trans (one_setCell _ _ _ _);obtain⟨k1,k2,k3,k4,k5,k6,k7,k8,k9,k10⟩:=HD.out.bounds;refine⟨rfl,?_,Only.of_one ho HD.out.mem⟩;refine HD.out.turn HB.out ho ?_ rfl rfl (Nat.le_refl _) k3 k4 h1 h2 (fun h=>by simpa using h);rw[set_cell (set_cell HB.out 4 _) 5 _,HX.out];rfl
def stepE(d:DS):Int:=if d.dead then 30 else if d.armed&&d.ahead==0 then 30 else 0
def stepD(d:DS):DS:=if d.dead then d else if !d.armed then { d with steps:=d.steps+1 } else if d.ahead=0 then { d with steps:=d.steps+1,dead:=true } else { d with steps:=d.steps+1,ahead:=d.ahead-1 }
theorem stepD_secs(d:DS):(stepD d).secs=d.secs∧(stepD d).room=d.room:=by unfold stepD;split<;>(try split)<;>(try split)<;>exact⟨rfl,rfl⟩
set_option maxHeartbeats 1000000 in
theorem step_any(N:Nat)(p:Nat)(d:DS)(fp:List Nat)(w:World)(h:DiskAt N w p d fp)(hN:N<1152921504606846976):
 Calls Tryz.prog 52 #[.pointer (some ⟨p,0,none⟩)] w fun x w'=>x = .returned (.int .i64 (stepE d))∧DiskAt (N+1) w' p (stepD d) fp∧One p w w':=by
 have HD:Hid (DiskAt N w p d fp):=h;obtain⟨k1,k2,k3,k4,k5,k6,k7,k8,k9,k10⟩:=h.bounds;obtain⟨lb,fb,hb⟩:=h.cells;obtain⟨c0,c1,c2,c3,c4,c5,c6,c7,hz⟩:=disk_cells hb;have HB:Hid (w.heap[p]?=some (dC d.room (d.secs.length:Int) d.steps d.dead d.armed d.ahead lb fb)):=hb;have HK:Hid (d.armed=true→0≤d.ahead):=k10;clear hb h k7 k10;cases hd:d.dead with
 |true=>
  rw[hd]at c3;have HX:Hid (d.dead=true):=hd;clear hd;go_enter Tryz.func52,Tryz.ntmps52;go_wp2;go_ret;exact⟨by rw[stepE,if_pos HX.out];rfl,by rw[stepD,if_pos HX.out];exact HD.out.mono (by omega),⟨rfl,rfl,rfl,rfl,rfl,fun _ _=>rfl⟩⟩
 |false=>
  rw[hd]at c3;have HX:Hid (d.dead=false):=hd;clear hd;cases ha:d.armed with
  |false=>
   rw[ha]at c4;have HA:Hid (d.armed=false):=ha;clear ha;go_enter Tryz.func52,Tryz.ntmps52;go_wp2;go_ret;(have e:stepD d={ d with steps:=d.steps+1 }:=by rw[stepD,if_neg (by rw[HX.out];simp),if_pos (by rw[HA.out];rfl)]);refine⟨by rw[stepE,if_neg (by rw[HX.out];simp),HA.out];rfl,?_,one_setCell _ _ _ _⟩;rw[e];refine HD.out.turn HB.out (one_setCell _ _ _ _) ?_ rfl rfl (by omega) (show 0≤d.steps+1 by omega) (show d.steps+1≤_ by omega) k8 k9 HK.out;rw[set_cell HB.out 2 _];rfl
  |true=>
   rw[ha]at c4;have HA:Hid (d.armed=true):=ha;have ka:=HK.out ha;clear ha;by_cases hah:d.ahead=0
   · rw[hah]at c5
     have HH:Hid (d.ahead=0):=hah;clear hah;go_enter Tryz.func52,Tryz.ntmps52;go_wp2;go_ret;(have e:stepD d={ d with steps:=d.steps+1,dead:=true }:=by rw[stepD,if_neg (by rw[HX.out];simp),if_neg (by rw[HA.out];simp),if_pos HH.out]);have ho:One p w ((w.setCell ⟨p,2,none⟩ (.int .i64 (d.steps+1))).setCell ⟨p,3,none⟩ (.bool true)):=(one_setCell _ _ _ _).trans (one_setCell _ _ _ _);refine⟨by rw[stepE,if_neg (by rw[HX.out];simp),HA.out,HH.out];rfl,?_,ho⟩;rw[e];refine HD.out.turn HB.out ho ?_ rfl rfl (by omega) (show 0≤d.steps+1 by omega) (show d.steps+1≤_ by omega) k8 k9 HK.out;rw[set_cell (set_cell HB.out 2 _) 3 _];rfl
   · have hb:(d.ahead==0)=false:=by simpa using hah
     have HH:Hid (d.ahead≠0):=hah;clear hah;go_enter Tryz.func52,Tryz.ntmps52;go_wp2;go_ret;have hne:=HH.out;(have e:stepD d={ d with steps:=d.steps+1,ahead:=d.ahead-1 }:=by rw[stepD,if_neg (by rw[HX.out];simp),if_neg (by rw[HA.out];simp),if_neg HH.out]);have ho:One p w ((w.setCell ⟨p,2,none⟩ (.int .i64 (d.steps+1))).setCell ⟨p,5,none⟩ (.int .i64 (d.ahead-1))):=(one_setCell _ _ _ _).trans (one_setCell _ _ _ _);refine⟨by rw[stepE,if_neg (by rw[HX.out];simp),HA.out,hb];rfl,?_,ho⟩;rw[e];refine HD.out.turn HB.out ho ?_ rfl rfl (by omega) (show 0≤d.steps+1 by omega) (show d.steps+1≤_ by omega) (show _≤d.ahead-1 by omega) (show d.ahead-1≤_ by omega) (fun _=>show 0≤d.ahead-1 by omega);rw[set_cell (set_cell HB.out 2 _) 5 _];rfl
end Go.Proofs.YthecngkdmnadoaaGreat

namespace Go.Proofs.YthecngkdmnadoaaGreat
open Go.RowKit
set_option maxRecDepth 100000
def newD(room:Int):DS:={ room:=max room 0,steps:=0,ahead:=0,dead:=false,armed:=false,secs:=[] }
theorem alloc_new(w:World)(o:Obj):(w.alloc o).heap[w.heap.size]?=some o:=(MapKept.heap_alloc w o).1
theorem alloc_old(w:World)(o:Obj){k:Nat}(h:k<w.heap.size):(w.alloc o).heap[k]?=w.heap[k]?:=(MapKept.heap_alloc w o).2 k h
theorem alloc_size(w:World)(o:Obj):(w.alloc o).heap.size=w.heap.size+1:=by simp
def newW(w:World)(r:Int):World:=((w.alloc (.map #[] 0)).alloc (.map #[] 0)).alloc (dC r 0 0 false false 0 w.heap.size (w.heap.size+1))
theorem new_disk(w:World)(room:Int)(r:Int)(hr:max room 0=r)(h2:r≤9223372036854775807):
 DiskAt 0 (newW w r) (w.heap.size+1+1) (newD room) [w.heap.size+1+1,w.heap.size,w.heap.size+1]∧Below w.heap.size w (newW w r)∧∀b∈[w.heap.size+1+1,w.heap.size,w.heap.size+1],w.heap.size≤b:=by
 have s1:=alloc_size w (.map #[] 0);have s2:=alloc_size (w.alloc (.map #[] 0)) (.map #[] 0);have e0:(newW w r).heap[w.heap.size+1+1]?=some (dC r 0 0 false false 0 w.heap.size (w.heap.size+1)):=by
  have:=alloc_new ((w.alloc (.map #[] 0)).alloc (.map #[] 0)) (dC r 0 0 false false 0 w.heap.size (w.heap.size+1));rw[s2,s1]at this;exact this
 have e1:(newW w r).heap[w.heap.size]?=some (.map #[] 0):=by
  rw[newW,alloc_old _ _ (by rw[s2,s1];omega),alloc_old _ _ (by rw[s1];omega),alloc_new]
 have e2:(newW w r).heap[w.heap.size+1]?=some (.map #[] 0):=by
  have:=alloc_new (w.alloc (.map #[] 0)) (.map #[] 0);rw[s1]at this;rw[newW,alloc_old _ _ (by rw[s2,s1];omega),this]
 refine⟨⟨{ lb:=w.heap.size,fb:=w.heap.size+1,L:=[],F:=[] },?_,⟨⟨#[],0,e1,rfl,by simp[keys],by simp,by simp⟩,⟨#[],0,e2,rfl,by simp[keys],by simp,by simp⟩,by simp,by simp⟩,⟨by simp[newD],?_,?_,by simp[newD]⟩,rfl,?_,?_,?_,?_,?_,?_,?_,?_,?_,?_,?_⟩,?_,?_⟩
 · rw[e0,←hr];rfl
 · intro a n;rfl
 · intro a n;rfl
 · simp;omega
 · show 0≤max room 0;omega
 · show max room 0≤_;omega
 · show(0:Int)≤0;omega
 · show(0:Int)≤(0:Nat);omega
 · exact Nat.le_refl _
 · show((0:Nat):Int)≤max room 0;omega
 · intro s hs;cases hs
 · show(-9223372036854775808:Int)≤0;omega
 · show(0:Int)≤_;omega
 · intro h;cases h
 · unfold newW
   exact(((Below.refl _ _).alloc (Nat.le_refl _) _).alloc (by simp) _).alloc (by simp;omega) _
 · intro b hb
   simp only[List.mem_cons,List.not_mem_nil,or_false]at hb;omega
set_option maxHeartbeats 2000000 in
theorem New_any(room:Int)(w:World)(h1 : -9223372036854775808≤room)(h2:room≤9223372036854775807):
 Calls Tryz.prog 10 #[.int .i64 room] w fun x w'=>∃p fp,x = .returned (.pointer (some ⟨p,0,none⟩))∧DiskAt 0 w' p (newD room) fp∧Below w.heap.size w w'∧∀b∈fp,w.heap.size≤b:=by
 have hmm:=@run_makeMap Tryz.prog;go_enter Tryz.func10,Tryz.ntmps10;go_wp2
 · go_ret
   obtain⟨k1,k2,k3⟩:=new_disk w room 0 (by omega) (by omega);exact⟨_,rfl,_,k1,k2,k3⟩
 · go_ret
   obtain⟨k1,k2,k3⟩:=new_disk w room room (by omega) (by omega);exact⟨_,rfl,_,k1,k2,k3⟩
end Go.Proofs.YthecngkdmnadoaaGreat
