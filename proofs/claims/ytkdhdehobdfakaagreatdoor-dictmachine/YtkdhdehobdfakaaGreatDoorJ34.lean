import Derived.Test.YtkdhdehobdfakaaGreatDoorLvStep
import Derived.Test.YtkdhdehobdfakaaGreatDoorJ32
set_option maxRecDepth 100000
set_option maxHeartbeats 8000000
namespace Go.Proofs.YtkdhdehobdfakaaGreatDoor
section
open Go.RowKit Nums Ed Lv
theorem keep_row(w:World)(ys:List Nat)(h:ys.length=25):∃w',zJj Tryz.prog (.pointer (some ⟨w.heap.size,0,none⟩)) (rV ys) (w.alloc (.cells (rC zeros) 133)) = .ok () w'∧RAt w' w.heap.size ys∧Below w.heap.size w w'∧w.heap.size<w'.heap.size:=by
 have N5:RAt (w.alloc (.cells (rC zeros) 133)) w.heap.size zeros:=RAt.new _ _;obtain⟨P6,O6⟩:=N5.put (ys:=ys) (by rw[h,zBh]);exact⟨_,zCo N5 zBh h,P6,O6.below ((Below.refl _ w).alloc (Nat.le_refl _) _) (Nat.le_refl _),P6.lt⟩
theorem put_row{w:World}{b:Nat}{bs:List Nat}(ys:List Nat)(hb:RAt w b bs)(hl:bs.length=25)(h:ys.length=25):∃w',zJj Tryz.prog (.pointer (some ⟨b,0,none⟩)) (rV ys) w = .ok () w'∧RAt w' b ys∧One b w w':=by
 obtain⟨P6,O6⟩:=hb.put (ys:=ys) (by rw[h,hl]);exact⟨_,zCo hb hl h,P6,O6⟩
def one3:List Nat:=([1,1,1]:List Nat)++List.replicate 22 0
theorem zNq(a:Act)(dst:Option Tmp)(ty:TypeId)(pos:String)(af:Array Edge)(g:Option (Nat×Bool))(w:World):(execOp a.eval ⟨dst,.build 133 #[(0,.const (.int .u8 1)),(1,.const (.int .u8 1)),(2,.const (.int .u8 1))],ty,pos,af,g⟩).run Tryz.prog w = .ok (.value (rV one3)) w:=by
 have h:(Instr.build 133 #[(0,.int .u8 1),(1,.int .u8 1),(2,.int .u8 1)]).run Tryz.prog w = .ok (rV one3) w:=by kernel_rfl
 simp only[execOp,Sem.run_bind,Sem.run_pure,List.map_toArray,List.map_cons,List.map_nil,Act.eval,h,Result.andThen]
attribute [local go_sem ↓] zA8 zCl zAz zA7 zNq
attribute [local go_sem] zEp
end
section
open Go.RowKit Nums Fm Pk Fz Ed Lv
def cellsM(m:Mt):List Value:=[.string m.1,.int .i64 m.2.1,.int .i64 m.2.2]
theorem cellsM_ok(m:Mt):zG1 3 (cellsM m):=⟨rfl,by simp[cellsM,Value.oneCell']⟩
theorem rtyM:RTy 52 46 3 32:=⟨by kernel_rfl,⟨.agg #[.string ByteArray.empty,.int .i64 0,.int .i64 0],by kernel_rfl,rfl⟩,by decide,by decide⟩
def zGa(c:Value):List Value:=[c]
theorem rtyF:RTy 1 128 1 8:=⟨by kernel_rfl,⟨.nilFunc,by kernel_rfl,rfl⟩,by decide,by decide⟩
def Sfe(K:Nat→Prop)(W W':World):Prop:=∀(b:Nat) (cur:Array Value) (T:TypeId),K b→W.heap[b]?=some (.cells cur T (0,0))→T≠130→T≠1→T≠52→W'.heap[b]?=W.heap[b]?
structure CloAt(K:Nat→Prop)(W:World)(sb:Nat)(xs:List Int)(d:Nat)(c:Value)(i:It):Prop where
 ex:∃b0 b1 b2 b3 b4,c = .func (.func 96) #[] #[.pointer (some ⟨b0,0,none⟩),.pointer (some ⟨b1,0,none⟩),.pointer (some ⟨b2,0,none⟩),.pointer (some ⟨b3,0,none⟩),.pointer (some ⟨b4,0,none⟩)]∧(K b0∧K b1∧K b2∧K b3∧K b4) ∧
  W.heap[b0]?=some (.cells #[.pointer (some ⟨sb,0,none⟩)] 166 (0,0))∧W.heap[b1]?=some (.cells #[.int .i32 i.lab,.int .i64 i.out,.int .i64 (i.to:Int)] 89 (0,0)) ∧
  W.heap[b2]?=some (.cells #[.string (zAw i.head)] 9 (0,0))∧W.heap[b3]?=some (.cells #[.int .i64 i.wt] 3 (0,0))∧RAt W b4 (rowL xs d (i.head++[i.lab]))
variable {K K' F:Nat→Prop} {B:Nat} {W W' V4:World} {sb wb lb d:Nat} {xs:List Int} {tv fv tv' fv' c:Value} {i:It} {cls:List Value} {its:List It} {fs:List Mt}
theorem CloAt.sfe(h:CloAt K W sb xs d c i)(hs:Sfe K W W'):CloAt K W' sb xs d c i:=by
 obtain⟨b0,b1,b2,b3,b4,hc,⟨k0,k1,k2,k3,k4⟩,h0,h1,h2,h3,h4⟩:=h.ex;exact⟨b0,b1,b2,b3,b4,hc,⟨k0,k1,k2,k3,k4⟩,(hs b0 _ _ k0 h0 (by decide) (by decide) (by decide)).trans h0,(hs b1 _ _ k1 h1 (by decide) (by decide) (by decide)).trans h1,(hs b2 _ _ k2 h2 (by decide) (by decide) (by decide)).trans h2,(hs b3 _ _ k3 h3 (by decide) (by decide) (by decide)).trans h3,(hs b4 _ _ k4 h4 (by decide) (by decide) (by decide)).trans h4⟩
theorem CloAt.weak(h:CloAt K W sb xs d c i)(hk:∀k,K k→k<W.heap.size→K' k):CloAt K' W sb xs d c i:=by
 obtain⟨b0,b1,b2,b3,b4,hc,⟨k0,k1,k2,k3,k4⟩,h0,h1,h2,h3,h4⟩:=h.ex;have lt:∀{b:Nat} {o:Obj},W.heap[b]?=some o→b<W.heap.size:=fun h=>(Array.getElem?_eq_some_iff.1 h).1
 exact⟨b0,b1,b2,b3,b4,hc,⟨hk _ k0 (lt h0),hk _ k1 (lt h1),hk _ k2 (lt h2),hk _ k3 (lt h3),hk _ k4 (lt h4)⟩,h0,h1,h2,h3,h4⟩
structure SrAt(K:Nat→Prop)(B:Nat)(W:World)(sb wb lb:Nat)(xs:List Int)(d:Nat)(tv fv:Value)(cls:List Value)(its:List It)(fs:List Mt):Prop where
 ks:K sb
 lo:B≤sb
 blk:W.heap[sb]?=some (.cells #[.pointer (some ⟨wb,0,none⟩),.pointer (some ⟨lb,0,none⟩),tv,fv] 130 (0,0))
 todo:GOwn 1 1 B W tv (cls.map zGa)
 kt:∀g,tv.ownBlock=some g→K g
 found:GOwn 52 3 B W fv (fs.map cellsM)
 kf:∀g,fv.ownBlock=some g→K g
 len:cls.length=its.length
 clo:∀(j:Nat) (c:Value) (i:It),cls[j]?=some c→its[j]?=some i→CloAt K W sb xs d c i
def SrF(sb:Nat)(tv fv:Value)(k:Nat):Prop:=k=sb∨tv.ownBlock=some k∨fv.ownBlock=some k
theorem SrAt.lt(h:SrAt K B W sb wb lb xs d tv fv cls its fs):sb<W.heap.size:=(Array.getElem?_eq_some_iff.1 h.blk).1
theorem SrAt.facts(h:SrAt K B W sb wb lb xs d tv fv cls its fs):W.cell? ⟨sb,0,none⟩=some (.pointer (some ⟨wb,0,none⟩))∧W.cell? ⟨sb,1,none⟩=some (.pointer (some ⟨lb,0,none⟩))∧W.cell? ⟨sb,2,none⟩=some tv∧W.cell? ⟨sb,3,none⟩=some fv∧∀o,W.frozen? ⟨sb,o,none⟩=false:=
 ⟨by simp[World.cell?,h.blk],by simp[World.cell?,h.blk],by simp[World.cell?,h.blk],by simp[World.cell?,h.blk],fun o=>by simp[World.frozen?,h.blk]⟩
theorem SrAt.keep(h:SrAt K B W sb wb lb xs d tv fv cls its fs)(hu:Upd F W W')(hF:∀k,F k→¬K k):SrAt K B W' sb wb lb xs d tv fv cls its fs:=by
 refine⟨h.ks,h.lo,(hu.block sb h.lt fun f=>hF _ f h.ks).trans h.blk,GOwn.same h.todo fun g hg=>hu.block g (GOwn.lt h.todo hg) fun f=>hF _ f (h.kt g hg),h.kt,GOwn.same h.found fun g hg=>hu.block g (GOwn.lt h.found hg) fun f=>hF _ f (h.kf g hg),h.kf,h.len,fun j c i hc hi=>(h.clo j c i hc hi).sfe fun b cur T hk hb _ _ _=>hu.block b (Array.getElem?_eq_some_iff.1 hb).1 fun f=>hF _ f hk⟩
theorem SrAt.below(h:SrAt K B W sb wb lb xs d tv fv cls its fs)(hb:Below W.heap.size W W'):SrAt K B W' sb wb lb xs d tv fv cls its fs:=h.keep (F:=fun _=>False) (Upd.of_below hb) (fun _ f=>f.elim)
theorem SrAt.weak(h:SrAt K B W sb wb lb xs d tv fv cls its fs)(hk:∀k,K k→k<W.heap.size→K' k):SrAt K' B W sb wb lb xs d tv fv cls its fs:=
 ⟨hk _ h.ks h.lt,h.lo,h.blk,h.todo,fun g hg=>hk _ (h.kt g hg) (GOwn.lt h.todo hg),h.found,fun g hg=>hk _ (h.kf g hg) (GOwn.lt h.found hg),h.len,fun j c i hc hi=>(h.clo j c i hc hi).weak hk⟩
theorem SrAt.apart(h:SrAt K B W sb wb lb xs d tv fv cls its fs):tv.ownBlock≠some sb∧fv.ownBlock≠some sb∧∀g,tv.ownBlock=some g→fv.ownBlock≠some g:=by
 refine⟨fun e=>?_,fun e=>?_,fun g e1 e2=>?_⟩
 · obtain⟨_,cur,h1⟩:=GOwn.block h.todo e
   rw[h.blk]at h1;injection h1 with h1;injection h1 with _ h1;exact absurd h1 (by decide)
 · obtain⟨_,cur,h1⟩:=GOwn.block h.found e
   rw[h.blk]at h1;injection h1 with h1;injection h1 with _ h1;exact absurd h1 (by decide)
 · obtain⟨_,cur,h1⟩:=GOwn.block h.todo e1
   obtain⟨_,cur2,h2⟩:=GOwn.block h.found e2;rw[h1]at h2;injection h2 with h2;injection h2 with _ h2;exact absurd h2 (by decide)
theorem SrAt.sfe(h:SrAt K B W sb wb lb xs d tv fv cls its fs)(hu:Upd (SrF sb tv fv) W W'):Sfe K' W W':=by
 intro b cur T _ hb n1 n2 n3;refine hu.block b (Array.getElem?_eq_some_iff.1 hb).1 ?_;rintro(e|e|e)
 · subst e
   rw[h.blk]at hb;injection hb with hb;injection hb with _ hb;exact n1 hb.symm
 · obtain⟨_,cur,h1⟩:=GOwn.block h.todo e
   rw[hb]at h1;injection h1 with h1;injection h1 with _ h1;exact n2 h1
 · obtain⟨_,cur,h1⟩:=GOwn.block h.found e
   rw[hb]at h1;injection h1 with h1;injection h1 with _ h1;exact n3 h1
theorem SrF.lo(h:SrAt K B W sb wb lb xs d tv fv cls its fs){k:Nat}(hk:SrF sb tv fv k):B≤k:=by
 rcases hk with e|e|e
 · have:=h.lo;omega
 · exact(GOwn.block h.todo e).1
 · exact(GOwn.block h.found e).1
theorem SrF.pos(h:SrAt K B W sb wb lb xs d tv fv cls its fs){k:Nat}(hk:SrF sb tv fv k):K k:=by
 rcases hk with e|e|e
 · subst e;exact h.ks
 · exact h.kt k e
 · exact h.kf k e
theorem SrAt.pushM(h:SrAt K B W sb wb lb xs d tv fv cls its fs)(m:Mt)(hb4:Below W.heap.size W V4)(hg:V4.grownBy W' fv.ownBlock)(ho:GOwn 52 3 B W' fv' (fs.map cellsM++[cellsM m]))(hob:fv'.ownBlock=fv.ownBlock∨∃g,fv'.ownBlock=some g∧V4.heap.size≤g)(hK:∀g,W.heap.size≤g→K g):
 SrAt K B (W'.setCell ⟨sb,3,none⟩ fv') sb wb lb xs d tv fv' cls its (fs++[m])∧Upd (SrF sb tv fv) W (W'.setCell ⟨sb,3,none⟩ fv')∧W'.cell? ⟨sb,3,none⟩=some fv∧W'.frozen? ⟨sb,3,none⟩=false:=by
 obtain⟨a1,a2,a3⟩:=h.apart;have hlt:=h.lt;have hu1:Upd (fun j=>fv.ownBlock=some j) W W':=(Upd.of_below hb4).trans (G:=fun j=>fv.ownBlock=some j) ⟨hg.os,hg.tape,hg.output,hg.size,fun j hj hn=>hg.block j hj (fun e=>hn e.symm)⟩ (fun _ _ g=>g);have hblk:W'.heap[sb]?=some (.cells #[.pointer (some ⟨wb,0,none⟩),.pointer (some ⟨lb,0,none⟩),tv,fv] 130 (0,0)):=(hu1.block sb hlt a2).trans h.blk;have hu2:Upd (fun j=>j=sb) W' (W'.setCell ⟨sb,3,none⟩ fv'):=zBo W' sb 3 fv';have hu3:Upd (fun j=>j=sb∨fv.ownBlock=some j) W (W'.setCell ⟨sb,3,none⟩ fv'):=(hu1.mono fun j e => .inr e).trans (hu2.mono (G:=fun j=>j=sb∨fv.ownBlock=some j) fun j e => .inl e) (fun _ _ g=>g);have hu:Upd (SrF sb tv fv) W (W'.setCell ⟨sb,3,none⟩ fv'):=hu3.mono fun j e=>e.elim .inl (fun g => .inr (.inr g))
 have hns:fv'.ownBlock≠some sb:=fun e=>by
  rcases hob with e2|⟨g,e2,h2⟩
  · exact a2 (e2▸e)
  · rw[e2]at e;cases e;have:=hb4.size;omega
 refine⟨⟨h.ks,h.lo,by rw[zAt hblk];rfl,GOwn.same h.todo fun g hg=>hu3.block g (GOwn.lt h.todo hg) ?_,h.kt,?_,fun g hg=>?_,h.len,fun j c i hc hi=>(h.clo j c i hc hi).sfe (h.sfe hu)⟩,hu,by simp[World.cell?,hblk],by simp[World.frozen?,hblk]⟩
 · rintro(e|e)
   · exact a1 (e▸hg)
   · exact a3 g hg e
 · rw[List.map_append]
   exact GOwn.same ho fun g hg=>hu2.block g (GOwn.lt ho hg) fun e=>hns (e▸hg)
 · rcases hob with e2|⟨g2,e2,h2⟩
   · exact h.kf g (e2▸hg)
   · rw[e2]at hg;cases hg;exact hK _ (Nat.le_trans hb4.size h2)
theorem SrAt.pushT(h:SrAt K B W sb wb lb xs d tv fv cls its fs)(hb4:Below W.heap.size W V4)(hg:V4.grownBy W' tv.ownBlock)(ho:GOwn 1 1 B W' tv' (cls.map zGa++[zGa c]))(hob:tv'.ownBlock=tv.ownBlock∨∃g,tv'.ownBlock=some g∧V4.heap.size≤g)(hK:∀g,W.heap.size≤g→K g)(hc:CloAt K W sb xs d c i):
 SrAt K B (W'.setCell ⟨sb,2,none⟩ tv') sb wb lb xs d tv' fv (cls++[c]) (its++[i]) fs∧Upd (SrF sb tv fv) W (W'.setCell ⟨sb,2,none⟩ tv')∧W'.cell? ⟨sb,2,none⟩=some tv∧W'.frozen? ⟨sb,2,none⟩=false:=by
 obtain⟨a1,a2,a3⟩:=h.apart;have hlt:=h.lt;have hu1:Upd (fun j=>tv.ownBlock=some j) W W':=(Upd.of_below hb4).trans (G:=fun j=>tv.ownBlock=some j) ⟨hg.os,hg.tape,hg.output,hg.size,fun j hj hn=>hg.block j hj (fun e=>hn e.symm)⟩ (fun _ _ g=>g);have hblk:W'.heap[sb]?=some (.cells #[.pointer (some ⟨wb,0,none⟩),.pointer (some ⟨lb,0,none⟩),tv,fv] 130 (0,0)):=(hu1.block sb hlt a1).trans h.blk;have hu2:Upd (fun j=>j=sb) W' (W'.setCell ⟨sb,2,none⟩ tv'):=zBo W' sb 2 tv';have hu3:Upd (fun j=>j=sb∨tv.ownBlock=some j) W (W'.setCell ⟨sb,2,none⟩ tv'):=(hu1.mono fun j e => .inr e).trans (hu2.mono (G:=fun j=>j=sb∨tv.ownBlock=some j) fun j e => .inl e) (fun _ _ g=>g);have hu:Upd (SrF sb tv fv) W (W'.setCell ⟨sb,2,none⟩ tv'):=hu3.mono fun j e=>e.elim .inl (fun g => .inr (.inl g))
 have hns:tv'.ownBlock≠some sb:=fun e=>by
  rcases hob with e2|⟨g,e2,h2⟩
  · exact a1 (e2▸e)
  · rw[e2]at e;cases e;have:=hb4.size;omega
 refine⟨⟨h.ks,h.lo,by rw[zAt hblk];rfl,?_,fun g hg=>?_,GOwn.same h.found fun g hg=>hu3.block g (GOwn.lt h.found hg) ?_,h.kf,by simp[h.len],fun j c2 i2 hc2 hi2=>?_⟩,hu,by simp[World.cell?,hblk],by simp[World.frozen?,hblk]⟩
 · rw[List.map_append]
   exact GOwn.same ho fun g hg=>hu2.block g (GOwn.lt ho hg) fun e=>hns (e▸hg)
 · rcases hob with e2|⟨g2,e2,h2⟩
   · exact h.kt g (e2▸hg)
   · rw[e2]at hg;cases hg;exact hK _ (Nat.le_trans hb4.size h2)
 · rintro(e|e)
   · exact a2 (e▸hg)
   · exact a3 g e hg
 · by_cases hj:j<cls.length
   · rw[List.getElem?_append_left hj]at hc2
     rw[List.getElem?_append_left (by rw[←h.len];exact hj)]at hi2;exact(h.clo j c2 i2 hc2 hi2).sfe (h.sfe hu)
   · have hj2:=(List.getElem?_eq_some_iff.1 hc2).1
     rw[List.length_append,List.length_singleton]at hj2;(have hje:j=cls.length:=by omega);rw[List.getElem?_append_right (by omega),hje,Nat.sub_self]at hc2;rw[List.getElem?_append_right (by rw[←h.len];omega),hje,h.len,Nat.sub_self]at hi2;simp only[List.getElem?_cons_zero,Option.some.injEq]at hc2 hi2;subst hc2;subst hi2;exact hc.sfe (h.sfe hu)
theorem SrAt.pop(h:SrAt K B W sb wb lb xs d tv fv (cls++[c]) (its++[i]) fs):∃g cap,tv = .slice (some ⟨g,0,none⟩) (cls.length+1) cap∧cls.length+1≤cap∧W.cell? ⟨g,cls.length,none⟩=some c∧CloAt K W sb xs d c i ∧
 SrAt K B (W.setCell ⟨sb,2,none⟩ (.slice (some ⟨g,0,none⟩) cls.length cap)) sb wb lb xs d (.slice (some ⟨g,0,none⟩) cls.length cap) fv cls its fs∧Upd (SrF sb tv fv) W (W.setCell ⟨sb,2,none⟩ (.slice (some ⟨g,0,none⟩) cls.length cap)):=by
 obtain⟨a1,a2,a3⟩:=h.apart;have hr:=h.todo
 rw[List.map_append]at hr;obtain⟨g,cap,hv,hc,ho⟩:=GOwn.pop hr;obtain⟨g2,cap2,hv2,_,_,_,hcell⟩:=GOwn.cell hr (by simp);rw[hv]at hv2;simp only[Value.slice.injEq,Option.some.injEq,Addr.mk.injEq,and_true,List.length_map]at hv2 hv hc ho;have hg2:g=g2:=hv2.1;subst hg2;have hu2:=zBo W sb 2 (.slice (some ⟨g,0,none⟩) cls.length cap);have hgo:tv.ownBlock=some g:=by rw[hv];rfl
 have hll:cls.length=its.length:=by have:=h.len;simp at this;exact this
 refine⟨g,cap,hv,hc,?_,h.clo cls.length c i (by simp) (by rw[hll];simp),⟨h.ks,h.lo,by rw[zAt h.blk];rfl,GOwn.same ho fun g' hg'=>?_,fun g' hg'=>?_,GOwn.same h.found fun g' hg'=>hu2.block g' (GOwn.lt h.found hg') (fun e=>a2 (e▸hg')),h.kf,hll,fun j c2 i2 hc2 hi2=>?_⟩,hu2.mono fun j e => .inl e⟩
 · have:=hcell cls.length 0 (zGa c) c (by rw[List.getElem?_append_right (by simp)];simp) rfl
   simpa using this
 · cases hg'
   exact hu2.block g (GOwn.lt ho rfl) (fun e=>a1 (e▸hgo))
 · cases hg'
   exact h.kt g hgo
 · refine(h.clo j c2 i2 (by rw[List.getElem?_append_left (List.getElem?_eq_some_iff.1 hc2).1];exact hc2) (by rw[List.getElem?_append_left (List.getElem?_eq_some_iff.1 hi2).1];exact hi2)).sfe (h.sfe (hu2.mono fun j e => .inl e))
end
section
open Go.RowKit Nums Fm Pk Fz Ed Lv
def Off(d6 k:Nat):Prop:=k≠d6∧k≠d6+1
def zGm(xs:List Int)(d:Nat)(head:List Int)(wt:Int)(l:List Arc)(k:Nat):List It:=((l.reverse.take k).filter (live xs d head)).map (itOf head wt)
theorem zS0(xs:List Int)(d:Nat)(head:List Int)(wt:Int)(l:List Arc):zGm xs d head wt l 0=[]:=rfl
theorem zVg(xs:List Int)(d:Nat)(head:List Int)(wt:Int)(l:List Arc):zGm xs d head wt l l.length=push xs d head wt l:=by
 unfold zGm push;rw[List.take_of_length_le (by simp)]
theorem zJp(xs:List Int)(d:Nat)(head:List Int)(wt:Int){l:List Arc}{k:Nat}{a:Arc}(hk:k<l.length)(ha:l[l.length-1-k]?=some a):zGm xs d head wt l (k+1)=zGm xs d head wt l k++(if live xs d head a then [itOf head wt a]else []):=by
 have h1:l.reverse[k]?=some a:=by rw[List.getElem?_reverse hk];exact ha
 unfold zGm;rw[List.take_add_one,h1,List.filter_append,List.map_append];congr 1;simp only[Option.toList_some,List.filter_cons,List.filter_nil]
 split<;>rfl
theorem zVf(xs:List Int)(d:Nat)(head:List Int)(wt:Int)(l:List Arc)(k:Nat):(zGm xs d head wt l k).length≤k:=by
 unfold zGm;rw[List.length_map];refine Nat.le_trans (List.length_filter_le _ _) ?_;rw[List.length_take];exact Nat.min_le_left _ _
structure VI(B sb wb lb:Nat)(xs:List Int)(d:Nat)(tv fv5:Value)(its:List It)(fs5:List Mt)(head:List Int)(wt:Int)(arcs:List Arc)(W6:World)(k:Nat)(V:World):Prop where
 ex:∃tv' cls',SrAt (Off W6.heap.size) B V sb wb lb xs d tv' fv5 cls' (its++zGm xs d head wt arcs k) fs5∧∀g,tv'.ownBlock=some g→tv.ownBlock=some g∨W6.heap.size≤g
 upd:Upd (SrF sb tv fv5) W6 V
variable {B sb wb lb:Nat} {xs:List Int} {d:Nat} {tv fv5:Value} {its:List It} {fs5:List Mt} {head:List Int} {wt:Int} {arcs:List Arc} {W6 V V':World} {k:Nat} {cls:List Value}
theorem VI.minds(h:VI B sb wb lb xs d tv fv5 its fs5 head wt arcs W6 k V)(hu:Upd (fun j=>j=W6.heap.size∨j=W6.heap.size+1) V V'):VI B sb wb lb xs d tv fv5 its fs5 head wt arcs W6 k V':=by
 obtain⟨tv',cls',h1,h2⟩:=h.ex;refine⟨⟨tv',cls',h1.keep hu fun j hj ho=>?_,h2⟩,h.upd.trans hu fun j hj e=>by omega⟩;rcases hj with e|e
 · exact ho.1 e
 · exact ho.2 e
theorem VI.start(h:SrAt (fun _=>True) B W6 sb wb lb xs d tv fv5 cls its fs5):VI B sb wb lb xs d tv fv5 its fs5 head wt arcs W6 0 W6:=by
 refine⟨⟨tv,cls,?_,fun g hg => .inl hg⟩,Upd.refl _ _⟩;rw[zS0,List.append_nil];exact h.weak fun _ _ hj=>⟨by omega,by omega⟩
theorem VI.stop(h:VI B sb wb lb xs d tv fv5 its fs5 head wt arcs W6 arcs.length V):∃tv' cls',SrAt (fun _=>True) B V sb wb lb xs d tv' fv5 cls' (its++push xs d head wt arcs) fs5:=by
 obtain⟨tv',cls',h1,_⟩:=h.ex;rw[zVg]at h1;exact⟨tv',cls',h1.weak fun _ _ _=>trivial⟩
theorem VI.sfe(h:VI B sb wb lb xs d tv fv5 its fs5 head wt arcs W6 k V)(h6:SrAt (fun _=>True) B W6 sb wb lb xs d tv fv5 cls its fs5):Sfe (fun _=>True) W6 V:=h6.sfe h.upd
theorem VI.bel{w0:World}(h:VI B sb wb lb xs d tv fv5 its fs5 head wt arcs W6 k V)(h6:SrAt (fun _=>True) B W6 sb wb lb xs d tv fv5 cls its fs5)(hb:Below w0.heap.size w0 W6)(hB:w0.heap.size≤B):Below w0.heap.size w0 V:=
 hb.trans (h.upd.below hb.size fun _ hj=>Nat.le_trans hB (SrF.lo h6 hj))
theorem VI.skip{a:Arc}(h:VI B sb wb lb xs d tv fv5 its fs5 head wt arcs W6 k V)(hb:Below V.heap.size V V')(hk:k<arcs.length)(ha:arcs[arcs.length-1-k]?=some a)(hl:live xs d head a=false):VI B sb wb lb xs d tv fv5 its fs5 head wt arcs W6 (k+1) V':=by
 obtain⟨tv',cls',h1,h2⟩:=h.ex;refine⟨⟨tv',cls',?_,h2⟩,h.upd.trans (Upd.of_below (F:=fun _=>False) hb) (fun _ _ g=>g.elim)⟩;rw[zJp _ _ _ _ hk ha,hl];simpa using h1.below hb
theorem VI.push{a:Arc}{tv1 tv2 c:Value}{cls1:List Value}{V0 V4:World}(hu0:Upd (SrF sb tv fv5) W6 V0)(hs0:SrAt (Off W6.heap.size) B V0 sb wb lb xs d tv1 fv5 cls1 (its++zGm xs d head wt arcs k) fs5)(hn0:∀g,tv1.ownBlock=some g→tv.ownBlock=some g∨W6.heap.size≤g)(hlt:W6.heap.size+1<V0.heap.size)
 (hk:k<arcs.length) (ha:arcs[arcs.length-1-k]?=some a) (hl:live xs d head a=true) (hb4:Below V0.heap.size V0 V4) (hg:V4.grownBy V' tv1.ownBlock) (ho:GOwn 1 1 B V' tv2 (cls1.map zGa++[zGa c])) (hob:tv2.ownBlock=tv1.ownBlock∨∃g,tv2.ownBlock=some g∧V4.heap.size≤g) (hc:CloAt (Off W6.heap.size) V0 sb xs d c (itOf head wt a)):
 VI B sb wb lb xs d tv fv5 its fs5 head wt arcs W6 (k+1) (V'.setCell ⟨sb,2,none⟩ tv2)∧Upd (SrF sb tv1 fv5) V0 (V'.setCell ⟨sb,2,none⟩ tv2)∧V'.cell? ⟨sb,2,none⟩=some tv1∧V'.frozen? ⟨sb,2,none⟩=false:=by
 obtain⟨g1,g2,g3,g4⟩:=hs0.pushT hb4 hg ho hob (fun g hg=>⟨by omega,by omega⟩) hc;refine⟨⟨⟨tv2,cls1++[c],?_,fun g hg=>?_⟩,hu0.trans g2 fun j hj e=>?_⟩,g2,g3,g4⟩
 · rw[zJp _ _ _ _ hk ha,hl,if_pos rfl,←List.append_assoc]
   exact g1
 · rcases hob with e2|⟨g2,e2,h2⟩
   · exact hn0 g (e2▸hg)
   · rw[e2]at hg;cases hg;have:=hb4.size;exact .inr (by omega)
 · rcases e with e|e|e
   · exact .inl e
   · rcases hn0 j e with e2|e2
     · exact .inr (.inl e2)
     · omega
   · exact .inr (.inr e)
end
