/- Texts that were written apart, joined. -/
import Derived.Test.YthecngkdmnadoaaGreatWalDoR
import Derived.Test.YthecngkdmnadoaaGreatAppOne
import Derived.Test.YthecngkdmnadoaaGreatG28
import Derived.Test.YthecngkdmnadoaaGreatG40
import Derived.Test.YthecngkdmnadoaaGreatG41
namespace Go.Proofs.YthecngkdmnadoaaGreat
open Go.RowKit
set_option maxRecDepth 100000
def ApartV(F:List Nat)(v:Value):Prop:=∀b off len cap,v = .slice (some ⟨b,off,none⟩) len cap→0<len→b∉F
def StrsX(F:List Nat)(w:World)(v:Value)(l:List (List Nat)):Prop:=StrsR w v l∧ApartV F v
theorem StrsX.step{F F':List Nat}{w w':World}{v:Value}{l:List (List Nat)}(h:StrsX F w v l)(ho:Only F w w')(hs:∀k∈F',k∈F∨w.heap.size≤k):StrsX F' w' v l:=by
 obtain⟨⟨ao,cap,rfl,h1,hz,h2⟩,h3⟩:=h;refine⟨⟨ao,cap,rfl,h1,hz,fun h0=>?_⟩,fun b off len c e h0 hm=>?_⟩
 · obtain⟨b,off,rfl,h4,h5⟩:=h2 h0
   refine⟨b,off,rfl,Nat.lt_of_lt_of_le h4 ho.size,fun i x hi=>?_⟩;rw[←h5 i x hi];simp[World.cell?,ho.block b h4 (h3 b off _ _ rfl h0)]
 · simp only[Value.slice.injEq]at e
   obtain⟨rfl,rfl,rfl⟩:=e;obtain⟨b',off',e2,h4,_⟩:=h2 h0;simp only[Option.some.injEq,Addr.mk.injEq]at e2;obtain⟨rfl,rfl,_⟩:=e2;rcases hs b hm with h5|h5
   · exact h3 b off _ _ rfl h0 h5
   · omega
theorem StrsX.below{F:List Nat}{w w':World}{v:Value}{l:List (List Nat)}(h:StrsX F w v l)(hb:Below w.heap.size w w'):StrsX F w' v l:=h.step (Only.of_below hb) (fun _ hk => .inl hk)
theorem StrOwn.readX{F:List Nat}{B:Nat}{w:World}{v:Value}{l:List (List Nat)}(h:StrOwn B w v l)(hF:∀k∈F,k<B):StrsX F w v l:=by
 refine⟨h.read,fun b off len cap e h0 hm=>?_⟩;obtain⟨_,⟨q1,_⟩|⟨gg,cp,cur,q1,q2,_⟩⟩:=h
 · rw[q1]at e
   cases e
 · rw[q1]at e
   simp only[Value.slice.injEq,Option.some.injEq,Addr.mk.injEq]at e;have:=hF b hm;omega
theorem StrsX.from'{F:List Nat}{w w':World}{lv lv':Value}{l l':List (List Nat)}(h:StrsX F w lv l)(hr:StrsR w' lv' l')(hf:FromV w.heap.size lv lv')(hF:∀k∈F,k<w.heap.size):StrsX F w' lv' l':=by
 refine⟨hr,fun b off len cap e h0 hm=>?_⟩;rcases hf b off len cap e h0 with h1|⟨o2,l2,c2,h1,h2⟩
 · have:=hF b hm;omega
 · exact h.2 b o2 l2 c2 h1 h2 hm
theorem StrsR.one{w:World}{v:Value}{l:List (List Nat)}(h:StrsR w v l):v.oneCell'=true:=by
 obtain⟨ao,cap,rfl,_⟩:=h;rfl
def MemX(F:List Nat)(w:World)(x:Nat×Value)(r:SR):Prop:=x.1=r.1∧StrsX F w x.2 r.2
def wC(x:Nat×Value):List Value:=[.int .u64 (x.1:Int),x.2]
theorem MemX.cells{F:List Nat}{w:World}{x:Nat×Value}{r:SR}(h:MemX F w x r):Cells 2 (wC x):=⟨rfl,fun u hu=>by
 unfold wC at hu;simp only[List.mem_cons,List.not_mem_nil,or_false]at hu;rcases hu with rfl|rfl
 · rfl
 · exact h.2.1.one⟩
theorem info_W:(Tryz.prog.info? 33).map (fun i=>(i.zero,i.size,i.bytes))=some (some (.agg #[.int .u64 0,.slice none 0 0]),2,32):=by kernel_rfl
theorem rty_W:RTy 33 48 2 32:=⟨Tryz.underlying48,⟨_,info_W,rfl⟩,by decide,by decide⟩
def WasX(F:List Nat)(B:Nat)(w:World)(v:Value)(M:List SR):Prop:=
 ∃xs:List (Nat×Value),xs.length=M.length∧(∀(i:Nat) x r,xs[i]?=some x→M[i]?=some r→MemX (F++v.ownBlock.toList) w x r)∧GOwn 33 2 B w v (xs.map wC)∧∀k∈v.ownBlock.toList,k∉F
theorem GOwn.keep{T:TypeId}{k B:Nat}{w w':World}{v:Value}{xss:List (List Value)}(h:GOwn T k B w v xss)(hb:∀g∈v.ownBlock.toList,g<w.heap.size→w'.heap[g]?=w.heap[g]?):GOwn T k B w' v xss:=by
 obtain⟨h0,hl,hn|⟨g,cap,cur,rfl,h1,hg,h2⟩⟩:=h
 · exact⟨h0,hl,.inl hn⟩
 · exact⟨h0,hl,.inr ⟨g,cap,cur,rfl,h1,(hb g (by simp[Value.ownBlock]) (Array.getElem?_eq_some_iff.1 hg).1).trans hg,h2⟩⟩
theorem GOwn.lt{T:TypeId}{k B:Nat}{w:World}{v:Value}{xss:List (List Value)}(h:GOwn T k B w v xss):∀g∈v.ownBlock.toList,g<w.heap.size∧B≤g:=by
 intro g hg;obtain⟨h0,hl,⟨e,_⟩|⟨g',cap,cur,rfl,h1,hh,h2⟩⟩:=h
 · rw[e]at hg
   simp[Value.ownBlock]at hg
 · simp[Value.ownBlock]at hg
   subst hg;exact⟨(Array.getElem?_eq_some_iff.1 hh).1,h1⟩
theorem WasX.step{F F':List Nat}{B:Nat}{w w':World}{v:Value}{M:List SR}(h:WasX F B w v M)(ho:Only F w w')(hs:∀k∈F',k∈F∨w.heap.size≤k):WasX F' B w' v M:=by
 obtain⟨xs,h1,h2,h3,h4⟩:=h;refine⟨xs,h1,fun i x r q1 q2=>⟨(h2 i x r q1 q2).1,(h2 i x r q1 q2).2.step (ho.wider (fun k hk=>List.mem_append_left _ hk)) (fun k hk=>?_)⟩,h3.keep fun g hg hl=>ho.block g hl (h4 g hg),fun k hk hm=>?_⟩
 · rcases List.mem_append.1 hk with h5|h5
   · exact(hs k h5).imp (fun h=>List.mem_append_left _ h) id
   · exact .inl (List.mem_append_right _ h5)
 · rcases hs k hm with h5|h5
   · exact h4 k hk h5
   · have:=(h3.lt k hk).1;omega
theorem WasX.below{F:List Nat}{B:Nat}{w w':World}{v:Value}{M:List SR}(h:WasX F B w v M)(hb:Below w.heap.size w w'):WasX F B w' v M:=h.step (Only.of_below hb) (fun _ hk => .inl hk)
theorem WasX.lt{F:List Nat}{B:Nat}{w:World}{v:Value}{M:List SR}(h:WasX F B w v M):∀g∈v.ownBlock.toList,g<w.heap.size∧B≤g∧g∉F:=by
 obtain⟨xs,h1,h2,h3,h4⟩:=h;exact fun g hg=>⟨(h3.lt g hg).1,(h3.lt g hg).2,h4 g hg⟩
theorem was_one{F:List Nat}{B:Nat}{w:World}{x:Nat×Value}{r:SR}(hB:B≤w.heap.size)(hx:MemX F w x r)(hF:∀k∈F,k<w.heap.size):WasX F B (w.alloc (.cells #[.int .u64 (x.1:Int),x.2] 33)) (.slice (some ⟨w.heap.size,0,none⟩) 1 1) [r]:=by
 have hb:Below w.heap.size w (w.alloc (.cells #[.int .u64 (x.1:Int),x.2] 33)):=(Below.refl _ w).alloc (Nat.le_refl _) _;refine⟨[x],rfl,fun i y q h1 h2=>?_,⟨fun y hy=>?_,?_⟩,fun k hk hm=>?_⟩
 · match i with
   |0=>
    (have e1:x=y:=by simpa using h1);(have e2:r=q:=by simpa using h2);subst e1 e2;refine⟨hx.1,hx.2.step (Only.of_below hb) (fun k hk=>?_)⟩;rcases List.mem_append.1 hk with h3|h3
    · exact .inl h3
    · have h4:k=w.heap.size:=by simpa[Value.ownBlock]using h3
      exact .inr (by omega)
   |i+1=>simp at h1
 · have:y=wC x:=by simpa using hy
   rw[this];exact hx.cells
 · exact World.ownsRow_lit w #[.int .u64 (x.1:Int),x.2] 1 hB (by decide) rfl
 · have h4:k=w.heap.size:=by simpa[Value.ownBlock]using hk
   have:=hF k hm;omega
end Go.Proofs.YthecngkdmnadoaaGreat

namespace Go.Proofs.YthecngkdmnadoaaGreat
open Go.RowKit
set_option maxRecDepth 100000
def NoB(u:Value):Prop:=∀n:Nat,u≠bv n
theorem noB_u64(z:Int):NoB (.int .u64 z):=fun n h=>by unfold bv at h;cases h
theorem noB_slice(a:Option Addr)(n c:Nat):NoB (.slice a n c):=fun _ h=>by unfold bv at h;cases h
def CleanB(w:World)(v:Value):Prop:=∀g,v.ownBlock=some g→∀cur T m,w.heap[g]?=some (.cells cur T m)→∀u∈cur.toList,NoB u
theorem zero_noB{z:Array Value}(hz:∀u∈z.toList,NoB u)(n:Nat):∀u∈(Builtin.zeroCells z n).toList,NoB u:=by
 intro u hu;unfold Builtin.zeroCells at hu;simp only[Array.toList_map,List.mem_map]at hu;obtain⟨i,hi,rfl⟩:=hu;have hi2:i<n*z.size:=by simpa using hi
 have hzp:0<z.size:=by
  rcases Nat.eq_zero_or_pos z.size with h|h
  · rw[h,Nat.mul_zero]at hi2;omega
  · exact h
 have hlt:i%z.size<z.size:=Nat.mod_lt _ hzp;rw[getElem!_pos z (i%z.size) hlt];exact hz _ (by simp)
theorem wC_noB(x:Nat×Value)(h:∀n,x.2≠bv n):∀u∈wC x,NoB u:=by
 intro u hu;unfold wC at hu;simp only[List.mem_cons,List.not_mem_nil,or_false]at hu;rcases hu with rfl|rfl
 · exact noB_u64 _
 · exact h
theorem append_clean{w w':World}{B:Nat}{v v':Value}{xss:List (List Value)}(hown:GOwn 33 2 B w v xss)(hcl:CleanB w v){x:List Value}(hx:Cells 2 x)(hxn:∀u∈x,NoB u){nb:Nat}(hc:∀j u,x[j]?=some u→w.cell? ⟨nb,j,none⟩=some u)(h63:xss.length<1099511627776)(ty:TypeId)(c:Nat)
 (hrun:(Builtin.append_ #[48,48] ty #[v,.slice (some ⟨nb,0,none⟩) 1 c]).run Tryz.prog w = .ok v' w'):CleanB w' v':=by
 obtain⟨i0,hi,hz0,hz1,hz2⟩:=info_parts info_W;have hzn:∀u∈(#[.int .u64 0,.slice none 0 0]:Array Value).toList,NoB u:=by
  intro u hu;simp only[List.mem_cons,List.not_mem_nil,or_false]at hu;rcases hu with rfl|rfl
  · exact noB_u64 _
  · exact noB_slice _ _ _
 have hadd:∀j,(⟨nb,0,none⟩:Addr).add j=⟨nb,j,none⟩:=fun j=>by unfold Addr.add;split<;>simp_all
 have hnews:∀j u,x[j]?=some u→w.cell? ((⟨nb,0,none⟩:Addr).add j)=some u:=fun j u hj=>by rw[hadd];exact hc j u hj
 have hl:x.length=1*i0.size:=by rw[hx.1,hz1]
 have hb64:(xss.length+1)*i0.bytes≤140737488355328:=by
  rw[hz2];omega
 obtain⟨_,hlf,⟨ev,h0⟩|⟨g,cap,cur,ev,hb',hh,hnc,hcm,hcs,htake⟩⟩:=id hown
 · subst ev
   rw[h0]at hb64;have hr:=run_append_nil (P:=Tryz.prog) w 48 ty 33 i0 _ Tryz.underlying48 hi hz0 ⟨nb,0,none⟩ 1 c x hl hnews (by omega) (by omega) (by omega);rw[hr]at hrun;(injection hrun with h1 h2);subst h1 h2;intro g hg cur T m hh u hu;have hge:g=w.heap.size:=by
    simp only[Value.ownBlock,Option.some.injEq]at hg;exact hg.symm
   subst hge;rw[show w.heap.size=w.drew.heap.size from rfl,alloc_newQ w.drew]at hh;simp only[Option.some.injEq,Obj.cells.injEq]at hh;rw[←hh.1]at hu;simp only[Array.toList_append,List.mem_append]at hu;rcases hu with h3|h3
   · exact hxn u (by simpa using h3)
   · exact zero_noB hzn _ u h3
 · subst ev
   have hcln:∀u∈cur.toList,NoB u:=hcl g (by rfl) cur _ _ hh;(have hcs':cur.size=cap*i0.size:=by rw[hz1];exact hcs);(have hlf':xss.flatten.length=xss.length*i0.size:=by rw[hz1];exact hlf);by_cases hroom:xss.length+1≤cap
   · have hfit:xss.length*i0.size+x.length≤cur.size:=by rw[hl,hcs',←Nat.add_mul];exact Nat.mul_le_mul_right _ hroom
     have hr:=run_append_room (P:=Tryz.prog) w 48 ty 33 i0 Tryz.underlying48 hi g xss.length cap cur hh ⟨nb,0,none⟩ 1 c x hl hnews hx.2 hroom hfit;rw[hr]at hrun;(injection hrun with h1 h2);subst h1 h2;intro g' hg cur' T m hh' u hu;have hge:g'=g:=by
      simp only[Value.ownBlock,Option.some.injEq]at hg;exact hg.symm
     subst hge;rw[setRow_heap w g' cur _ _ _ hh]at hh';simp only[Option.some.injEq,Obj.cells.injEq]at hh';rw[←hh'.1]at hu;simp only[List.mem_append]at hu;rcases hu with(h3|h3)|h3
     · exact hcln u (List.mem_of_mem_take h3)
     · exact hxn u h3
     · exact hcln u (List.mem_of_mem_drop h3)
   · have holds:∀j u,xss.flatten[j]?=some u→w.cell? ((⟨g,0,none⟩:Addr).add j)=some u:=hown.2.cells (g:=g) rfl
     have hr:=run_append_grow (P:=Tryz.prog) w 48 ty 33 i0 _ Tryz.underlying48 hi hz0 ⟨g,0,none⟩ xss.length cap xss.flatten hlf' holds ⟨nb,0,none⟩ 1 c x hl hnews (by omega) (by omega) (growslice_fits (by omega) hb64);rw[hr]at hrun;(injection hrun with h1 h2);subst h1 h2;intro g' hg cur' T m hh' u hu;have hge:g'=w.heap.size:=by
      simp only[Value.ownBlock,Option.some.injEq]at hg;exact hg.symm
     subst hge;rw[show w.heap.size=w.drew.heap.size from rfl,alloc_newQ w.drew]at hh';simp only[Option.some.injEq,Obj.cells.injEq]at hh';rw[←hh'.1]at hu;simp only[Array.toList_append,List.mem_append]at hu;rcases hu with(h3|h3)|h3
     · have h4:u∈xss.flatten:=by simpa using h3
       (have h5:u∈cur.toList.take (xss.length*2):=by rw[htake];exact h4);exact hcln u (List.mem_of_mem_take h5)
     · exact hxn u (by simpa using h3)
     · exact zero_noB hzn _ u h3
end Go.Proofs.YthecngkdmnadoaaGreat

namespace Go.Proofs.YthecngkdmnadoaaGreat
open Go.RowKit
set_option maxRecDepth 100000
def SinceX(W0:World)(N b p:Nat)(r:Int×LG)(F:List Nat)(w:World)(e:Ending)(w':World):Prop:=e = .returned (.int .i64 r.1)∧∃v' fp' s',Since W0 N w' b p r.2 v' fp' s'∧Only F w w'∧∀k∈logF b v' fp',k∈F∨w.heap.size≤k
theorem Since.toldX{W0:World}{N M K b p:Nat}{w0 w w':World}{g:LG}{v:WV}{fp:List Nat}{s:List Sv}{r:Int×LG}{e:Ending}(h:Since W0 N w b p g v fp s)(hs:LogSays M b r v fp w e w')(hm:M≤K)(hb:Below w0.heap.size w0 w):SinceX W0 K b p r (logF b v fp) w0 e w':=by
 obtain⟨h1,v',fp',s',h2⟩:=h.says hs;obtain⟨_,v2,fp2,s2,q1,q2,q3,q4⟩:=hs;refine⟨h1,v2,fp2,s2,⟨q1.more hm,fun k hk=>?_,h.below.trans (q3.below h.below.size h.new),q2.trans h.p⟩,(Only.of_below hb).then q3 (fun _ h=>h),fun k hk=>?_⟩
 · rcases q4 k hk with h6|h6
   · exact h.new k h6
   · exact Nat.le_trans h.below.size h6
 · exact(q4 k hk).imp id (fun h=>Nat.le_trans hb.size h)
set_option maxHeartbeats 4000000 in
theorem does5_X(W0:World)(N b p m:Nat)(k z:Int)(x:List Nat)(xv:Value)(g:LG)(v:WV)(fp:List Nat)(s:List Sv)(w:World)(h:Since W0 N w b p g v fp s)(hx:Row W0.heap.size W0 xv x)(hsm:GSm m g)(hm:m≤268435456)(hN:N<137438952000)(hl:x.length≤1099511627776):
 Calls Tryz.prog 15 #[.pointer (some ⟨b,0,none⟩),.agg #[.int .i64 k,.int .i64 z,xv]] w (SinceX W0 (N+1000+m) b p (doesG g k z x) (logF b v fp) w):=by
 have hok:=hsm.lok (by omega);have htl:=hsm.tl;have hlm:=hsm.many;obtain⟨hix,hixl⟩:=ixG_is g z;obtain⟨xa,xc,rfl,_⟩:=hx.shape
 have HA:Hid (∀W,Since W0 N W b p g v fp s→Below w.heap.size w W→Calls Tryz.prog 28 #[.pointer (some ⟨b,0,none⟩),.slice xa x.length xc] W (SinceX W0 (N+1000+m) b p (appG g x) (logF b v fp) w)):=fun W hW hbW=>
  (App_any N b g v fp s x _ W hW.log (hW.row hx) hok (by omega) hl).mono (fun e w' hs=>hW.toldX hs (by omega) hbW)
 have HY:Hid (∀W,Since W0 N W b p g v fp s→Below w.heap.size w W→Calls Tryz.prog 24 #[.pointer (some ⟨b,0,none⟩)] W (SinceX W0 (N+1000+m) b p (syncG g) (logF b v fp) w)):=fun W hW hbW=>
  (Sync_log N b g v fp s W hW.log hok (by omega)).mono (fun e w' hs=>hW.toldX hs (by omega) hbW)
 have HT:Hid (∀W,Since W0 N W b p g v fp s→Below w.heap.size w W→Calls Tryz.prog 42 #[.pointer (some ⟨b,0,none⟩),.int .u64 (ixG g z:Int)] W (SinceX W0 (N+1000+m) b p (truncG g (ixG g z)) (logF b v fp) w)):=fun W hW hbW=>
  (Trunc_log N b _ g v fp s W hW.log hok (by omega) hixl).mono (fun e w' hs=>hW.toldX hs (by omega) hbW)
 have HC:Hid (∀W,Since W0 N W b p g v fp s→Below w.heap.size w W→Calls Tryz.prog 29 #[.pointer (some ⟨b,0,none⟩),.int .u64 (ixG g z:Int)] W (SinceX W0 (N+1000+m) b p (compG g (ixG g z)) (logF b v fp) w)):=fun W hW hbW=>
  (Comp_log N b _ g v fp s W hW.log hok (by omega)).mono (fun e w' hs=>hW.toldX hs (by omega) hbW)
 have HBw:Hid (∀ob k,Below w.heap.size w ((w.alloc ob).drewN k)):=fun ob k=>belowN ((Below.refl _ w).alloc (Nat.le_refl _) _) _
 have HS:Hid (∀ob k,Since W0 N ((w.alloc ob).drewN k) b p g v fp s):=fun ob k=>h.on (belowN ((Below.refl _ w).alloc (Nat.le_refl _) _) _)
 have hgf:=hok.recs;obtain⟨i,hi⟩:∃i,ixG g z=i:=⟨_,rfl⟩;have HD:Hid (doesG g k z x=if k=0 then appG g x else if k=1 then syncG g else if k=2 then truncG g i else if k=3 then compG g i else (0,g)):=by show _=_;rw[←hi];rfl
 rw[hi]at hix HT HC;clear h hx hok hsm hi htl hlm;by_cases k0:k=0
 · subst k0
   obtain⟨r,hr⟩:∃r,appG g x=r:=⟨_,rfl⟩;rw[hr]at HA;(have HD2:Hid (doesG g 0 z x=r):=by show _=_;rw[HD.out,if_pos rfl,hr]);clear HD hr;go_enter Tryz.func15,Tryz.ntmps15;go_wp2_with fail;go_quiet (first|(go_at_call 16;refine Calls.quiet_of_same (first_since (HS.out _ _) _ rfl)));go_wp2_with fail;refine(HA.out _ (HS.out _ _) (HBw.out _ _)).mono ?_;rintro e w1 ⟨rfl,v1,fp1,s1,hs1⟩;have HF:Hid (SinceX W0 (N+1000+m) b p r (logF b v fp) w (.returned (.int .i64 r.1)) w1):=⟨rfl,v1,fp1,s1,hs1⟩;clear hs1;go_wp2_with fail;go_ret;rw[HD2.out];exact HF.out
 by_cases k1:k=1
 · subst k1
   obtain⟨r,hr⟩:∃r,syncG g=r:=⟨_,rfl⟩;rw[hr]at HY;(have HD2:Hid (doesG g 1 z x=r):=by show _=_;rw[HD.out,if_neg (by decide),if_pos rfl,hr]);clear HD hr k0;go_enter Tryz.func15,Tryz.ntmps15;go_wp2_with fail;go_quiet (first|(go_at_call 16;refine Calls.quiet_of_same (first_since (HS.out _ _) _ rfl)));go_wp2_with fail;refine(HY.out _ (HS.out _ _) (HBw.out _ _)).mono ?_;rintro e w1 ⟨rfl,v1,fp1,s1,hs1⟩;have HF:Hid (SinceX W0 (N+1000+m) b p r (logF b v fp) w (.returned (.int .i64 r.1)) w1):=⟨rfl,v1,fp1,s1,hs1⟩;clear hs1;go_wp2_with fail;go_ret;rw[HD2.out];exact HF.out
 by_cases k2:k=2
 · subst k2
   obtain⟨r,hr⟩:∃r,truncG g i=r:=⟨_,rfl⟩;rw[hr]at HT;(have HD2:Hid (doesG g 2 z x=r):=by show _=_;rw[HD.out,if_neg (by decide),if_neg (by decide),if_pos rfl,hr]);clear HD hr k0 k1;go_enter Tryz.func15,Tryz.ntmps15;go_wp2_with fail;go_quiet (first|(go_at_call 16;refine Calls.quiet_of_same (first_since (HS.out _ _) _ rfl)));go_wp2_with fail;refine(HT.out _ (HS.out _ _) (HBw.out _ _)).mono ?_;rintro e w1 ⟨rfl,v1,fp1,s1,hs1⟩;have HF:Hid (SinceX W0 (N+1000+m) b p r (logF b v fp) w (.returned (.int .i64 r.1)) w1):=⟨rfl,v1,fp1,s1,hs1⟩;clear hs1;go_wp2_with fail;go_ret;rw[HD2.out];exact HF.out
 by_cases k3:k=3
 · subst k3
   obtain⟨r,hr⟩:∃r,compG g i=r:=⟨_,rfl⟩;rw[hr]at HC;(have HD2:Hid (doesG g 3 z x=r):=by show _=_;rw[HD.out,if_neg (by decide),if_neg (by decide),if_neg (by decide),if_pos rfl,hr]);clear HD hr k0 k1 k2;go_enter Tryz.func15,Tryz.ntmps15;go_wp2_with fail;go_quiet (first|(go_at_call 16;refine Calls.quiet_of_same (first_since (HS.out _ _) _ rfl)));go_wp2_with fail;refine(HC.out _ (HS.out _ _) (HBw.out _ _)).mono ?_;rintro e w1 ⟨rfl,v1,fp1,s1,hs1⟩;have HF:Hid (SinceX W0 (N+1000+m) b p r (logF b v fp) w (.returned (.int .i64 r.1)) w1):=⟨rfl,v1,fp1,s1,hs1⟩;clear hs1;go_wp2_with fail;go_ret;rw[HD2.out];exact HF.out
 have HD2:Hid (doesG g k z x=(0,g)):=by show _=_;rw[HD.out,if_neg k0,if_neg k1,if_neg k2,if_neg k3]
 have e0:(k==0)=false:=by simpa using k0
 have e1:(k==1)=false:=by simpa using k1
 have e2:(k==2)=false:=by simpa using k2
 have e3:(k==3)=false:=by simpa using k3
 clear HD k0 k1 k2 k3;go_enter Tryz.func15,Tryz.ntmps15;go_wp2_with fail;go_quiet (first|(go_at_call 16;refine Calls.quiet_of_same (first_since (HS.out _ _) _ rfl)));go_wp2_with fail;go_ret;rw[HD2.out];exact⟨rfl,v,fp,s,(HS.out _ _).more (by omega),Only.of_below (HBw.out _ _),fun _ hk => .inl hk⟩
end Go.Proofs.YthecngkdmnadoaaGreat

namespace Go.Proofs.YthecngkdmnadoaaGreat
open Go.RowKit
set_option maxRecDepth 100000
def NoBs(w:World)(G:List Nat):Prop:=∀g∈G,∀o n,w.cell? ⟨g,o,none⟩≠some (bv n)
theorem CleanB.noBs{w:World}{v:Value}(h:CleanB w v):NoBs w v.ownBlock.toList:=by
 intro g hg o n hc;have hg':v.ownBlock=some g:=by
  cases hv:v.ownBlock with
  |none=>rw[hv]at hg;cases hg
  |some k=>
   rw[hv]at hg;(have:g=k:=by simpa using hg);rw[this]
 unfold World.cell? at hc;cases hh:w.heap[g]? with
 |none=>rw[hh]at hc;cases hc
 |some ob=>
  rw[hh]at hc;cases ob with
  |cells cur T m=>
   dsimp only at hc
   have hmem:bv n∈cur.toList:=by
    have h2:cur[o]?=some (bv n):=hc;obtain⟨hlt,he⟩:=Array.getElem?_eq_some_iff.1 h2;rw[←he];simp
   exact h g hg' cur T m hh _ hmem n rfl
  |_=>cases hc
theorem RowX.noB{F G:List Nat}{w:World}{v:Value}{xs:List Nat}(h:RowX F w v xs)(hG:NoBs w G):RowX (F++G) w v xs:=by
 refine⟨h.1,fun b off len cap e h0 hm=>?_⟩;rcases List.mem_append.1 hm with h1|h1
 · exact h.2 b off len cap e h0 h1
 · obtain⟨ao,cap',e1,_,_,hc⟩:=h.1
   obtain⟨b',off',e2,_,h3⟩:=hc h0;rw[e1,e2]at e;simp only[Value.slice.injEq,Option.some.injEq,Addr.mk.injEq]at e;have h4:=h3 0 h0;obtain⟨⟨rfl,rfl,_⟩,_⟩:=e;exact hG b' h1 _ _ h4
theorem LogAt.apartN{N:Nat}{w w':World}{b:Nat}{g:LG}{v:WV}{fp:List Nat}{s:List Sv}{G:List Nat}(h:LogAt N w b g v fp s)(ho:Only G w w')(hG:∀k∈G,k∉logF b v fp)(hN:NoBs w G):LogAt N w' b g v fp s:=by
 have hd:∀k∈fp,k∉G:=fun k hk hm=>hG k hm (by simp[logF,hk])
 refine⟨h.disk.apart ho hd,(ho.block b h.wal.lt (fun hm=>hG b hm (by simp[logF]))).trans h.wal,h.pl.only ho (fun ad n c e=>?_),h.recs.only ho (fun x hx hm=>hG x hm (by simp[logF,hx])),fun i x xs h1 h2=>?_,?_,h.bf,h.paf,h.raf⟩
 · simp only[Value.slice.injEq]at e
   rw[←e.1];exact fun x hx hm=>hG x hm (by simp[logF,hx])
 · exact((h.rows i x xs h1 h2).noB hN).step (ho.wider (fun x hx=>List.mem_append_right _ hx)) (fun k hk => .inl (List.mem_append_left _ hk))
 · exact(h.tail.noB hN).step (ho.wider (fun x hx=>List.mem_append_right _ hx)) (fun k hk => .inl (List.mem_append_left _ hk))
theorem Since.apartN{W0:World}{N b p:Nat}{w w':World}{g:LG}{v:WV}{fp:List Nat}{s:List Sv}{G:List Nat}(h:Since W0 N w b p g v fp s)(ho:Only G w w')(hG:∀k∈G,k∉logF b v fp)(hN:NoBs w G)(hB:∀k∈G,W0.heap.size≤k):Since W0 N w' b p g v fp s:=
 ⟨h.log.apartN ho hG hN,h.new,h.below.trans (ho.below h.below.size hB),h.p⟩
end Go.Proofs.YthecngkdmnadoaaGreat

namespace Go.Proofs.YthecngkdmnadoaaGreat
open Go.RowKit
set_option maxRecDepth 100000
structure Rdy(f0 k:Nat)(d:DS):Prop where
 ok:SOk d.secs
 live:d.dead=false
 arm:d.armed=false
 chain:ch none (segsOf d.secs (numsN d))
 sm:∀s∈segsOf d.secs (numsN d),SmS s
 nums:∀n∈numsN d,n<k
 room:d.room=1073741824
 len:d.secs.length≤60*k
 ends : ∀ B, fo none (segsOf d.secs (numsN d)) = some B → B.1 + B.2.length ≤ k
 f0:f0≤k
 k:k≤2000000
theorem asc_len:∀(l:List Nat) (a k:Nat),l.Pairwise (·<·)→(∀n∈l,a≤n∧n<k)→l.length≤k-a
 |[],_,_,_,_=>Nat.zero_le _
 |x::r,a,k,hp,h=>by
  obtain⟨h1,h2⟩:=List.pairwise_cons.1 hp;have h3:=h x (List.mem_cons_self ..);have ih:=asc_len r (x+1) k h2 (fun n hn=>⟨h1 n hn,(h n (List.mem_cons_of_mem _ hn)).2⟩);simp only[List.length_cons];omega
theorem fo_mem:∀(l:List SR) (st:Option SR) (P:List Nat→Prop),(∀A,st=some A→∀x∈A.2,P x)→(∀s∈l,∀x∈s.2,P x)→∀B,fo st l=some B→∀x∈B.2,P x
 |[],st,P,h,_,B,hB=>h B hB
 |s::r,st,P,h,hl,B,hB=>by
  rw[fo]at hB;refine fo_mem r _ P (fun A hA x hx=>?_) (fun t ht=>hl t (List.mem_cons_of_mem _ ht)) B hB;rw[Option.some.injEq]at hA;rw[←hA]at hx;cases st with
  |none=>exact hl s (List.mem_cons_self ..) x hx
  |some C=>
   have hx':x∈(if s.1<C.1 then s else (C.1,C.2.take (s.1-C.1)++s.2)).2:=hx
   split at hx'
   · exact hl s (List.mem_cons_self ..) x hx'
   · rcases List.mem_append.1 hx' with h1|h1
     · exact h C rfl x (List.mem_of_mem_take h1)
     · exact hl s (List.mem_cons_self ..) x h1
theorem Rdy.open{f0 k:Nat}{d:DS}(h:Rdy f0 k d):∃g,openG d 0 f0=(0,g)∧LI f0 g (segNs d.secs (numsN d)) none∧GSm k g∧GRec g∧g.d.armed=false∧g.d.room=1073741824∧g.d.secs.length≤60*k ∧
 (match fo none (segsOf d.secs (numsN d))with|none=>g.first=f0∧g.L=[]|some B=>g.first=B.1∧g.L=B.2):=by
 have hk:=h.k;have hf:=h.f0;obtain⟨_,hasc⟩:=nums_mem h.ok.sorted (fun s hs=>(h.ok.area s hs).1);obtain⟨g,h1,h2,h3,h4,h5,h6,h7,h8,h9,h10⟩:=open_well (f0:=f0) (K:=k) h.ok h.live h.arm h.chain h.sm h.nums (by omega) (by omega);have hnl:(numsN d).length≤k:=by
  have:=asc_len (numsN d) 0 k hasc (fun n hn=>⟨Nat.zero_le _,h.nums n hn⟩);omega
 have hfl:g.first+g.L.length≤k:=by
  cases hfo:fo none (segsOf d.secs (numsN d))with
  |none=>
   rw[hfo]at h10;rw[h10.1,h10.2];exact hf
  |some B=>
   rw[hfo]at h10;rw[h10.1,h10.2];exact h.ends B hfo
 refine⟨g,h1,h2,⟨h3,hfl,Nat.le_trans h9 hnl,fun y hy=>?_,by rw[h5];decide,by rw[h4];decide⟩,fun x hx=>?_,h6,h7.trans h.room,Nat.le_trans h8 h.len,h10⟩
 · rw[h2.pls]at hy
   obtain⟨x,hx,rfl⟩:=List.mem_map.1 hy;exact h2.next x hx
 · cases hfo:fo none (segsOf d.secs (numsN d))with
   |none=>
    rw[hfo]at h10;rw[h10.2]at hx;cases hx
   |some B=>
    rw[hfo]at h10;rw[h10.2]at hx;exact fo_mem _ none (fun x=>x.length≤512) (fun A hA=>by cases hA) (fun s hs x hx=>(h.sm s hs).recs x hx) B hfo x hx
theorem Rdy.since{f0 k:Nat}{d:DS}(h:Rdy f0 k d){W0:World}{N p:Nat}{fp:List Nat}{w:World}{g:LG}(hd:DiskAt N w p d fp)(hb:Below W0.heap.size W0 w)(hf:∀k∈fp,W0.heap.size≤k)(hN:N<130000000000)(hg:openG d 0 f0=(0,g)):
 Calls Tryz.prog 12 #[.pointer (some ⟨p,0,none⟩),.int .u64 ((0:Nat):Int),.int .u64 (f0:Int)] w fun e w'=>∃b v fp' s,e = .returned (.tuple #[.pointer (some ⟨b,0,none⟩),.int .i64 0])∧Since W0 (N+k) w' b p g v fp' s:=by
 have hk:=h.k;have hf0:=h.f0;have hl:=h.len;obtain⟨hm,hasc⟩:=nums_mem h.ok.sorted (fun s hs=>(h.ok.area s hs).1);obtain⟨ham,_⟩:=areas_mem h.ok.sorted;have hnl:(numsN d).length≤k:=by
  have:=asc_len (numsN d) 0 k hasc (fun n hn=>⟨Nat.zero_le _,h.nums n hn⟩);omega
 have hts:=(tsum_bound h.ok.sorted (fun s hs=>(h.ok.area s hs).1)).1;refine open_since (fr:=0) (first:=f0) hd hb hf hN (by omega) (by omega) (fun a ha=>?_) (fun _ x hx=>?_) hnl (by omega) (by omega) (fun a i u hu=>?_) hg
 · obtain⟨s,hs,rfl⟩:=(ham a).1 ha
   exact h.ok.area s hs
 · have:=h.nums x hx
   omega
 · exact h.ok.bytes a i u (by rw[←hu];exact ver_cur _ _ _)
theorem LI.arm{f0:Nat}{g:LG}{segs:List SegN}{cu:CuN}(h:LI f0 g segs cu)(at_:Int):LI f0 { g with d:=if g.d.dead then g.d else { g.d with armed:=decide (0≤at_),ahead:=at_ } } segs cu:=by
 have hd:(if g.d.dead then g.d else { g.d with armed:=decide (0≤at_),ahead:=at_ })={ g.d with armed:=decide (0≤at_),ahead:=at_ }:=by rw[if_neg (by rw[h.live];decide)]
 rw[hd];exact⟨h.si.secs rfl,h.live,h.fault,h.adr,h.pls,h.cur0,h.cur1,h.next,h.log⟩
end Go.Proofs.YthecngkdmnadoaaGreat

namespace Go.Proofs.YthecngkdmnadoaaGreat
open Go.RowKit
set_option maxRecDepth 100000
def OpFo(f0:Nat)(st:Option SR)(g:LG):Prop:=match st with
 |none=>g.first=f0∧g.L=[]
 |some B=>g.first=B.1∧g.L=B.2
structure CutD(f0 k:Nat)(M:List SR)(d:DS):Prop where
 si:∃segs cu,SI d segs cu∧MO f0 M segs cu∧∀x∈segs++cuL cu,x.1<k
 room:d.room=1073741824
 len:d.secs.length≤60*k
 ends : ∀ r ∈ M, r.1 + r.2.length ≤ k
theorem CutD.more{f0 k m:Nat}{M:List SR}{d:DS}(h:CutD f0 k M d)(hm:k≤m):CutD f0 m M d:=by
 obtain⟨⟨segs,cu,h1,h2,h3⟩,h4,h5,h6⟩:=h;exact⟨⟨segs,cu,h1,h2,fun x hx=>Nat.lt_of_lt_of_le (h3 x hx) hm⟩,h4,Nat.le_trans h5 (by omega),fun r hr=>Nat.le_trans (h6 r hr) hm⟩
theorem CutD.found{f0 k:Nat}{M:List SR}{d t:DS}(h:CutD f0 k M d)(hf:f0≤k)(hk:k≤2000000)(ht:SOk t.secs)(hv:View d.secs t.secs)(h1:t.dead=false)(h2:t.armed=false)(h3:t.room=d.room)(h4:t.secs.length≤d.secs.length):
 Rdy f0 k t∧∃r∈M,FitsO f0 (fo none (segsOf t.secs (numsN t))) r:=by
 obtain⟨segs,cu,hs,hM,hn⟩:=h.si;obtain⟨hc,hsm,r,hr,hfit⟩:=hs.found hM t ht hv;refine⟨⟨ht,h1,h2,hc,hsm,fun n hn'=>?_,h3.trans h.room,Nat.le_trans h4 h.len,fun B hB=>?_,hf,hk⟩,r,hr,hfit⟩
 · have hm:=hs.sub n (nums_view hs.ok ht hv n hn')
   obtain⟨x,hx,rfl⟩:=List.mem_map.1 hm;exact hn x hx
 · rw[hB]at hfit
   obtain⟨q1,q2,_⟩:=hfit;have:=h.ends r hr;omega
structure CutP(f0 k:Nat)(at_:Int)(g:LG)(M:List SR):Prop where
 li:∃segs cu,LI f0 g segs cu∧MO f0 M segs cu
 sm:GSm k g
 rec':GRec g
 last:M.getLast?=some (g.first,g.L)
 room:g.d.room=1073741824
 len:g.d.secs.length≤60*k
 ends : ∀ r ∈ M, r.1 + r.2.length ≤ k
 un:at_<0→Un g.d
 many:M.length≤k+1
theorem CutP.more{f0 k m:Nat}{at_:Int}{g:LG}{M:List SR}(h:CutP f0 k at_ g M)(hm:k≤m):CutP f0 m at_ g M:=
 ⟨h.li,h.sm.more hm,h.rec',h.last,h.room,Nat.le_trans h.len (by omega),fun r hr=>Nat.le_trans (h.ends r hr) hm,h.un,Nat.le_trans h.many (by omega)⟩
theorem CutP.disk{f0 k:Nat}{at_:Int}{g:LG}{M:List SR}(h:CutP f0 k at_ g M):CutD f0 k M g.d:=by
 obtain⟨segs,cu,h1,h2⟩:=h.li;exact⟨⟨segs,cu,h1.si,h2,fun x hx=>Nat.lt_of_lt_of_le (h1.next x hx) h.sm.next⟩,h.room,h.len,h.ends⟩
theorem CutP.live{f0 k:Nat}{at_:Int}{g:LG}{M:List SR}(h:CutP f0 k at_ g M):g.d.dead=false:=by
 obtain⟨segs,cu,h1,h2⟩:=h.li;exact h1.live
theorem Rdy.cut{f0 k:Nat}{d:DS}(h:Rdy f0 k d):∃g,openG d 0 f0=(0,g)∧CutP f0 k (-1) g [(g.first,g.L)] ∧
 OpFo f0 (fo none (segsOf d.secs (numsN d))) g:=by
 obtain⟨g,hg,hli,hsm,hgr,harm,hroom,hlen,hfo⟩:=h.open;have hfo2:OpFo f0 (fo none (segsOf d.secs (numsN d))) g:=by
  cases hf:fo none (segsOf d.secs (numsN d))with
  |none=>
   rw[hf]at hfo;exact hfo
  |some B=>
   rw[hf]at hfo;exact hfo
 refine⟨g,hg,?_,hfo2⟩;have hl:=hli.live;have hsr:=(segNs_srs d.secs (numsN d)).1;refine⟨⟨_,_,hli,MO.all (fun x kd e=>by cases e) ?_⟩,hsm,hgr,rfl,hroom,hlen,fun r hr=>?_,fun _=>⟨hl,harm⟩,by simp⟩
 · have e:segNs d.secs (numsN d)++cuL none=segNs d.secs (numsN d):=List.append_nil _
   rw[e,hsr];cases hf:fo none (segsOf d.secs (numsN d))with
   |none=>
    rw[hf]at hfo;rw[hfo.1,hfo.2];exact FitsP.self _ _
   |some B=>
    rw[hf]at hfo;rw[hfo.1,hfo.2];exact FitsP.self _ _
 · rw[List.mem_singleton.1 hr]
   exact hsm.fl
theorem CutP.arm{f0 k:Nat}{at0:Int}{g:LG}{M:List SR}(h:CutP f0 k at0 g M)(at_:Int):CutP f0 k at_ { g with d:=if g.d.dead then g.d else { g.d with armed:=decide (0≤at_),ahead:=at_ } } M:=by
 obtain⟨segs,cu,hli,hM⟩:=h.li;have hl:=hli.live;have hA:=hli.arm at_;have hd:(if g.d.dead then g.d else { g.d with armed:=decide (0≤at_),ahead:=at_ })={ g.d with armed:=decide (0≤at_),ahead:=at_ }:=by rw[if_neg (by rw[hl];decide)]
 rw[hd]at hA ⊢;have hsm:=h.sm;exact⟨⟨_,_,hA,hM⟩,⟨hsm.next,hsm.fl,hsm.many,hsm.pl,hsm.tl,hsm.sec⟩,h.rec',h.last,h.room,h.len,h.ends,fun ha=>⟨hl,decide_eq_false (by omega)⟩,h.many⟩
theorem CutP.step{f0 k:Nat}{at_:Int}{g:LG}{M:List SR}(h:CutP f0 k at_ g M)(hk:k≤2000000){kd z:Int}{x:List Nat}(h1 : -1000000<z)(h2:z<1000000)(hb:∀y∈x,y<256):
 ((doesG g kd z x).2.d.dead=true∧0≤at_∧CutD f0 (k+1) (M++[(doR (g.first,g.L) kd z x).2]) (doesG g kd z x).2.d) ∨
 ((doesG g kd z x).2.d.dead=false∧(doesG g kd z x).1=(doR (g.first,g.L) kd z x).1∧(doesG g kd z x).2.first=(doR (g.first,g.L) kd z x).2.1∧(doesG g kd z x).2.L=(doR (g.first,g.L) kd z x).2.2 ∧
  CutP f0 (k+1) at_ (doesG g kd z x).2 (if kd=1 then [(doR (g.first,g.L) kd z x).2]else M++[(doR (g.first,g.L) kd z x).2])):=by
 obtain⟨segs,cu,hli,hM⟩:=h.li;have hn:=h.sm.next
 have hfl:=h.sm.fl;have hl:=h.len;have hr:=h.room;have hS:=hli.does hM h1 h2 hb (k:=kd) (z:=z) (x:=x) h.sm.sec (by rw[hr];omega) (by omega) (by omega);have hsm:=does_small h.sm kd z x (by omega);have hrec:=does_rec h.rec' kd z x;have hs:(doR (g.first,g.L) kd z x).2.1+(doR (g.first,g.L) kd z x).2.2.length≤k+1:=by
  have ix:=ix_near g.first z (by omega) h1 h2;unfold doR
  dsimp only
  split
  · split
    · show g.first+g.L.length≤k+1;omega
    · show g.first+(g.L++[x]).length≤k+1
      rw[List.length_append,List.length_singleton];omega
  · split
    · split
      · show g.first+g.L.length≤k+1;omega
      · show g.first+(g.L.take _).length≤k+1
        rw[List.length_take];omega
    · split
      · split
        · show g.first+g.L.length≤k+1;omega
        · split
          · show g.first+g.L.length≤k+1;omega
          · rename_i q1 q2
            show(IntKind.u64.wrap ((g.first:Int)+IntKind.u64.wrap z)).toNat+(g.L.drop z.toNat).length≤k+1;rw[List.length_drop];omega
      · show g.first+g.L.length≤k+1;omega
 have hends:∀r∈M++[(doR (g.first,g.L) kd z x).2],r.1+r.2.length≤k+1:=by
  intro r hr;rcases List.mem_append.1 hr with h3|h3
  · have:=h.ends r h3;omega
  · rw[List.mem_singleton.1 h3];exact hs
 have hlen2:(doesG g kd z x).2.d.secs.length≤60*(k+1):=by have:=hS.len;omega
 rcases hS.out with⟨q1,segs',cu',q2,q3,q4⟩|⟨q1,q2,q3,q4,segs',cu',q5,q6⟩
 · left
   refine⟨q1,?_,⟨segs',cu',q2,q3,fun y hy=>by have:=q4 y hy;omega⟩,hS.room.trans hr,hlen2,hends⟩
   · rcases Int.lt_or_le at_ 0 with h4|h4
     · have:=(un_does (h.un h4) kd z x).1
       rw[q1]at this;cases this
     · exact h4
 · right
   refine⟨q1,q2,q3,q4,⟨segs',cu',q5,q6⟩,hsm,hrec,?_,hS.room.trans hr,hlen2,fun r hr=>?_,fun ha=>un_does (h.un ha) kd z x,?_⟩
   · rw[q3,q4]
     split
     · rfl
     · rw[List.getLast?_append];rfl
   · split at hr
     · rw[List.mem_singleton.1 hr];exact hs
     · exact hends r hr
   · split
     · simp
     · have:=h.many
       rw[List.length_append,List.length_singleton];omega
theorem LI.now{f0:Nat}{g:LG}{segs:List SegN}{cu:CuN}(h:LI f0 g segs cu):segsOf g.d.secs (numsN g.d)=srs (segs++cuL cu):=by
 have hs:=h.si;rw[(segs_list hs.ok hs.asc hs.sub).1];refine segs_dur _ fun x hx=>?_
 rcases List.mem_append.1 hx with h1|h1
 · exact hs.dur x h1 _ ((View.self _).area _)
 · cases hcu:cu with
   |none=>rw[hcu]at h1;cases h1
   |some c=>
    obtain⟨y,kd⟩:=c;subst hcu;have e:x=y:=List.mem_singleton.1 h1;subst e;obtain⟨c1,c2,_⟩:=h.cur1 x kd rfl;exact CurS.whole ⟨hs.cur x kd rfl,c2⟩ (hs.sm x hx) (fun i=>rfl)
theorem FitsP.trans{f F G:Nat}{l R S:List (List Nat)}(h1:FitsP f l F R)(h2:FitsP F R G S):FitsP f l G S:=by
 obtain⟨a1,a2,a3⟩:=h1;obtain⟨b1,b2,b3⟩:=h2;refine⟨Nat.le_trans a1 b1,by omega,fun i x hx=>?_⟩;have:=a3 _ x (b3 i x hx);rw[←this];congr 1;omega
theorem CutP.told{f0 k:Nat}{at_:Int}{g g2:LG}{M:List SR}(h:CutP f0 k at_ g M)(h2:OpFo f0 (fo none (segsOf g.d.secs (numsN g.d))) g2):FitsP g2.first g2.L g.first g.L:=by
 obtain⟨segs,cu,hli,hM⟩:=h.li;rw[hli.now]at h2;have hf:=hli.log.fits;cases hfo:fo none (srs (segs++cuL cu))with
 |none=>
  rw[hfo]at hf h2;rw[h2.1,h2.2];exact hf
 |some B=>
  rw[hfo]at hf h2;rw[h2.1,h2.2];exact hf
theorem FitsO.told{f0:Nat}{st:Option SR}{g2:LG}{r:SR}(h:FitsO f0 st r)(h2:OpFo f0 st g2):FitsP g2.first g2.L r.1 r.2:=by
 cases st with
 |none=>
  rw[h2.1,h2.2];exact h
 |some B=>
  rw[h2.1,h2.2];exact h
end Go.Proofs.YthecngkdmnadoaaGreat
