/- Texts that were written apart, joined. -/
import Derived.Test.YthecngkdmnadoaaGreatG03
import Derived.RangeFuncNested
import Derived.RangeFuncBound
import Derived.RangeFuncCalls
import Derived.RangeFuncLeaves
import Derived.RangeFuncFrom
import Derived.RangeFuncBox
import Derived.Shelf.Abstract
import Derived.Shelf.RegionOpen
import Derived.WalkKit
import Derived.OwnWalkIn
import Derived.TacticsInMore
import Derived.RegionIn
import Derived.LoopNIn
import Derived.LoopIn
import Derived.Sort.MapsRangeIn
import Derived.Maps.AppendAt
import Derived.Handy
import Derived.Test.YthecngkdmnadoaaGreatG19
import Derived.Lib.SlKeysI
namespace Go.Proofs.YthecngkdmnadoaaGreat
open Go.RowKit Go.Shelf
set_option maxRecDepth 100000
section
variable {F:Fence} {n:Nat} {P:Program} {ops:Array Oper} {rest:List Oper} {o:Oper} {a:Act} {w:World} {Q:Exit→Act→World→Prop} {α:Type} {q:IntKind} {f:α→Value} {m:List (Int×α)} {t:TypeId}
theorem wpListIn_range_at{mv:Value}{bo:Option Nat}(h:∃ob,(Instr.range t mv).run P w = .ok (.pointer (some ⟨w.heap.size,0,none⟩)) (w.alloc ob)∧Ranges q f (w.alloc ob) bo w.heap.size m [])(hg:o.guard=none)(x:Operand)(hop:o.op=Op.range t x)(hm:a.eval x=mv)
 (hK:∀ob,Ranges q f (w.alloc ob) bo w.heap.size m []→wpListIn F n P ops Q rest (a.put o.dst (.pointer (some ⟨w.heap.size,0,none⟩))) (w.alloc ob)):wpListIn F n P ops Q (o::rest) a w:=by
 refine wpListIn_plain hg fun K' hK'=>?_
 obtain⟨ob,hrun,hr⟩:=h;unfold Oper.wpIn;refine⟨by simp[Oper.about,hop],?_⟩;rw[Oper.semAt_plain F _ _ (by rw[hop];intro c hc';cases hc')];simp[execOp,hop,hm,hrun,Result.andThen];exact hK' _ _ (hK ob hr)
theorem wpListIn_next_at{bo:Option Nat}{r:Nat}{done:List (Int×α)}(h:Ranges q f w bo r m done)(hg:o.guard=none)(it:Operand)(hop:o.op=Op.next it false)(hit:a.eval it = .pointer (some ⟨r,0,none⟩))
 (hDone:AllIn m done→wpListIn F n P ops Q rest (a.put o.dst (.tuple #[.bool false])) w)
 (hMore:∀k v w',(k,v)∈m→k∉keys done→Ranges q f w' bo r m (done++[(k,v)])→OneD r w w'→(Instr.entry (.pointer (some ⟨r,0,none⟩))).run P w' = .ok (.tuple #[.int q k,f v]) w'→wpListIn F n P ops Q rest (a.put o.dst (.tuple #[.bool true,.int q k,f v])) w'):wpListIn F n P ops Q (o::rest) a w:=by
 refine wpListIn_plain hg fun K' hK'=>?_
 unfold Oper.wpIn;refine⟨by simp[Oper.about,hop],?_⟩;rw[Oper.semAt_plain F _ _ (by rw[hop];intro c hc';cases hc')];rcases h.next (P:=P) o.type with⟨hd,hrun⟩|⟨p,w',hp,hk,hrun,hr,h1,h2,h3,h4,h5,hen⟩
 · simp[execOp,hop,hit,hrun,Result.andThen]
   exact hK' _ _ (hDone hd)
 · simp[execOp,hop,hit,hrun,Result.andThen]
   exact hK' _ _ (hMore p.1 p.2 w' hp hk hr ⟨h1,h2,h3,h4,h5⟩ hen)
end
theorem OneD.grown{b:Nat}{w w':World}(h:OneD b w w'):w.grownBy w' (some b):=⟨h.os,h.tape,h.output,by rw[h.size];exact Nat.le_refl _,fun k _ hk=>h.block k (fun e=>hk (by rw[e]))⟩
section
variable {α:Type} {q:IntKind} {f:α→Value} {m:List (Int×α)} {w w':World} {bo:Option Nat} {r:Nat} {done:List (Int×α)}
theorem Ranges.iter_walk(h:Ranges q f w bo r m done):∃o:Obj,w.heap[r]?=some o∧o.isWalk=true:=by
 rcases h with⟨_,_,_,s,c,h⟩|⟨_,_,_,_,_,_,_,_,_,_,_,_,h,_⟩<;>exact⟨_,h,rfl⟩
theorem Ranges.map_walk(h:Ranges q f w bo r m done){b:Nat}(hb:bo=some b):∃o:Obj,w.heap[b]?=some o∧o.isWalk=true:=by
 subst hb;rcases h with⟨hn,_⟩|⟨_,_,_,_,_,_,hb,h,_⟩
 · cases hn
 · cases hb;exact⟨_,h,rfl⟩
theorem Ranges.walks(h:Ranges q f w bo r m done)(hk:KeepsWalks w w'):Ranges q f w' bo r m done:=by
 refine h.same ?_ (fun b hb=>?_)
 · obtain⟨o,ho,hw⟩:=h.iter_walk
   rw[ho];exact hk.same r o ho hw
 · obtain⟨o,ho,hw⟩:=h.map_walk hb
   rw[ho];exact hk.same b o ho hw
theorem Ranges.perm(h:Ranges q f w bo r m done)(ha:AllIn m done)(hm:(keys m).Nodup):(keys done).Perm (keys m):=by
 have hs:=h.seen;refine(List.perm_ext_iff_of_nodup hs.2.2.1 hm).2 fun k=>?_
 constructor
 · intro hk
   obtain⟨p,hp,rfl⟩:=List.mem_map.1 hk;exact List.mem_map.2 ⟨p,hs.2.2.2 p hp,rfl⟩
 · intro hk
   obtain⟨p,hp,rfl⟩:=List.mem_map.1 hk;exact List.mem_map.2 ⟨p,ha p hp,rfl⟩
end
end Go.Proofs.YthecngkdmnadoaaGreat

namespace Go.Proofs.YthecngkdmnadoaaGreat
open Go.RowKit Go.Shelf
set_option maxRecDepth 100000
attribute [local go_sem] Oper.semAt_some
namespace IterL
set_option maxHeartbeats 4000000 in
theorem keys1_stops{α:Type}{f:α→Value}{m:List (Int×α)}{bo:Option Nat}(F:Fence)(n:Nat)(hf:F.fn 103)(hro:F.round=none)(hn:1≤n)(Bm:Nat)(w:World)(hBm:Bm<w.heap.size)
 (hc:w.cell? ⟨Bm,0,none⟩=some (.map bo)) (hm:(keys m).Nodup)
 (hr:∀W,Below w.heap.size w W→∃ob,(Instr.range 70 (.map bo)).run Tryz.prog W = .ok (.pointer (some ⟨W.heap.size,0,none⟩)) (W.alloc ob)∧Ranges .u64 f (W.alloc ob) bo W.heap.size m []):
 SeqStopsK F n Tryz.prog 103 #[.pointer (some ⟨Bm,0,none⟩)] (fun x:Int=>#[.int .u64 x]) KeepsWalks (fun xs=>xs.Perm (keys m)) (fun _=>True) m.length w:=by
 intro l J Jx W hW hJ hJx hY h0;have hcW:W.cell? ⟨Bm,0,none⟩=some (.map bo):=(World.cell?_of_block (a:=⟨Bm,0,none⟩) (hW.block Bm hBm)).trans hc;have hrW:=hr W hW;have HY:Hid (∀pre x W1,J pre W1→pre.length<m.length→YieldAt F (n-1) Tryz.prog l #[.int .u64 x] W1 fun e W'=>(e = .returned (.bool true)∧J (pre++[x]) W'∧KeepsWalks W1 W')∨(e = .returned (.bool false)∧Jx (pre++[x]) W')):=hY;clear hY hr hc;refine callsIn_of_wp Tryz.func103 rfl hf ?_ hro;simp only[Tryz.ntmps103,List.size_toArray,List.length_cons,List.length_nil,Nat.reduceAdd,Nat.reduceSub,Array.replicate_succ,Array.replicate_zero,List.push_toArray,List.append_toArray,List.nil_append,List.cons_append]
 gi_wp2_with (first
  |(gi_at_range;refine wpListIn_range_at hrW rfl _ rfl rfl ?_;intro ob hR0)
  |gi_in)
 go_frame
 gi_loopw [3] (fun _ wr=>∃done:List (Int×α),Ranges .u64 f wr bo W.heap.size m done∧J (keys done) wr) (fun _ wr=>m.length-seenAt wr W.heap.size)
 case atStart=>exact⟨[],hR0,hJ [] W _ none h0 (World.grownBy_alloc W ob none) (fun r e=>by cases e)⟩
 case round=>
  obtain⟨done,hR,hJs⟩:=hrel
  gi_wp2_with (first
   |(gi_at_next;refine wpListIn_next_at hR rfl _ rfl rfl ?_ ?_)
   |gi_in)
  · intro hall
    gi_wp2
    go_end0
    exact⟨⟨_,rfl⟩,.inl ⟨keys done,hR.perm hall hm,hJs⟩⟩
  · intro k v w2 hmem hnk hR2 hone hen
    have hJ2:J (keys done) w2:=hJ (keys done) wr w2 (some W.heap.size) hJs hone.grown (fun r e=>by cases e;exact⟨Nat.le_refl _,hR.iter_walk⟩);have hs1:=hR.seen;have hs2:=hR2.seen;(have hlen:(keys done).length<m.length:=by have:=hs2.2.1;simp[keys]at this ⊢;omega);obtain⟨fn,tmps,assign,body,hy,hRr⟩:=HY.out (keys done) k w2 hJ2 hlen;have HS1:Hid (seenAt wr W.heap.size=done.length∧done.length<m.length):=⟨hs1.1,by simpa[keys]using hlen⟩;clear hs1 hs2 hlen
    gi_wp2
    refine hRr.mono ?_;rintro e W3 (⟨rfl,hJ3,hk3⟩|⟨rfl,hJ3⟩)
    · gi_wp2
      have hR3:=hR2.walks hk3
      go_roundw
      case rel=>exact⟨done++[(k,v)],hR3,by simpa[keys]using hJ3⟩
      case measure=>
       have:=hR3.seen.1;have h1:=HS1.out;rw[this,h1.1];simp;omega
    · gi_wp2
      go_returns;exact⟨⟨_,rfl⟩,.inr ⟨_,trivial,hJ3⟩⟩
set_option maxHeartbeats 1000000 in
theorem Keys_any(bo:Option Nat)(w:World):Calls Tryz.prog 80 #[.map bo] w fun e w'=>e = .returned (.func (.func 103) #[] #[.pointer (some ⟨w.heap.size,0,none⟩)])∧w'=w.alloc (.cells #[.map bo] 70):=by
 go_enter Tryz.func80,Tryz.ntmps80;go_wp2;go_ret;exact⟨rfl,rfl⟩
end IterL
end Go.Proofs.YthecngkdmnadoaaGreat

namespace Go.Proofs.YthecngkdmnadoaaGreat
open Go.RowKit Go.Shelf
set_option maxRecDepth 100000
attribute [local go_sem] Oper.semAt_some
namespace SrtU
theorem infoE:(Tryz.prog.info? 22).map (fun i=>(i.zero,i.size,i.bytes))=some (some (.int .u64 0),1,8):=by kernel_rfl
set_option maxHeartbeats 4000000 in
theorem appendSeq_in(F:Fence)(n:Nat)(hf:F.fn 118)(hro:F.round=none)(hn:3≤n)(g:Nat)(lb:Array Value)(hFg:F.fn g)(eg:∀args w,(callFunc g args).run Tryz.prog w = .ok (.enter g args) w)
 {S Sp:List Int→Prop} {N:Nat} (w:World) (hseq:SeqStopsK F (n-1) Tryz.prog g lb (fun x:Int=>#[.int .u64 x]) KeepsWalks S Sp N w) (hN:N<1099511627776):
 CallsIn F n Tryz.prog 118 #[.slice none 0 0,.func (.func g) #[] lb] w fun e w'=>∃v xs,e = .returned v∧S xs∧w'.ownsRow w.heap.size 22 1 v xs.length (xs.map (Value.int .u64))∧(v = .slice none 0 0↔xs=[])∧Below w.heap.size w w':=by
 have h1:1≤n:=by omega
 obtain⟨i0,hi,hz0,hz1,hz2⟩:=info_parts infoE;refine callsIn_of_wp_marks Tryz.func118 rfl hf ?_ hro;simp only[Tryz.ntmps118,List.size_toArray,List.length_cons,List.length_nil,Nat.reduceAdd,Nat.reduceSub,Array.replicate_succ,Array.replicate_zero,List.push_toArray,List.append_toArray,List.nil_append,List.cons_append]
 gi_wp2
 refine wpIn_rangeFunc_ownF (α:=Int) hro h1 (gf:=g) (lb:=lb) rfl hFg eg (encs:=fun x=>#[.int .u64 x]) (Kp:=KeepsWalks) (w0:=w) hseq (fun h k=>walksK_t h k) walksK_b ((Below.refl _ w).alloc (Nat.le_refl _) _) (fun _=>rfl)
  (fun pre W=>(∃v,Boxed W w.heap.size 63 v∧W.ownsRow w.heap.size 22 1 v pre.length (pre.map (Value.int .u64))∧(v = .slice none 0 0↔pre=[]))∧Below w.heap.size w W)
  (fun _ _ _=>False)
  (OwnFrom.and (Own.from (holdsRow_own w.heap.size w.heap.size 63 22 1 (fun pre:List Int=>pre.length) (fun pre=>pre.map (Value.int .u64)) (fun pre v=>v = .slice none 0 0↔pre=[])) _) (ownFrom_below (Nat.le_refl _) (by simp)))
  (fun _ _ _ _ _ hs _ _=>hs)
  ⟨⟨.slice none 0 0,Boxed.new w _ _,World.ownsRow_nil _ _ _ _,by simp⟩,(Below.refl _ w).alloc (Nat.le_refl _) _⟩
  (fun x=>{ tmps:=#[.slice none 0 0,.func (.func g) #[] lb,.pointer (some ⟨w.heap.size,0,none⟩),undef,.slice none 0 0,.int .u64 x,.func (.func g) #[] lb,.int .u64 x,undef,undef,undef,undef,undef],defers:=[] }) ?assign ?body ?done ?stop
 case assign=>
  intro l x W K hK
  gi_wp2
  exact hK
 case body=>
  rintro l pre x W ⟨⟨v,hv,hrow,hnil⟩,hB⟩ hlt;have hc:=hv.cell
  gi_wp2_with (first|(gi_at_builtin;refine wpListIn_append_own _ rfl _ _ 63 rfl w.heap.size 22 i0 (.int .u64 0) 1 8 Tryz.underlying63 hi hz0 hz1 hz2 rfl (by decide) _ _ _ rfl (hrow.alloc _) ⟨W.heap.size,0,none⟩ 1 1 [.int .u64 x] rfl rfl (cell_one_new _ _ _) (by simp[Value.oneCell']) (by simp only[maxLen];omega) (by omega) (by have:=hB.size;simp;omega) ?_;intro v' w1 hown' hgrow _;obtain⟨g',cap',rfl⟩:=ownsRow_succ hown';obtain⟨hv1,hv2,hr2,hk2,hb2⟩:=hv.appended (by decide) hrow hB.size (Nat.le_refl _) hown' hgrow;have hc1:=hv1.cell;have hf1:=hv1.frozen)|gi_in)
  exact⟨hk2,hk2.walks,⟨_,hv2,by simpa using hr2,by simp⟩,hB.trans hb2⟩
 case done=>
  rintro D xs W hD hS ⟨⟨v,hv,hrow,hnil⟩,hB⟩ hK;have hc:=hv.cell
  gi_wp2
  refine⟨by simp,.inl ⟨_,_,rfl,run_takeDeferred hK,?_⟩⟩;exact⟨_,results_tmp rfl _ _ _,v,xs,rfl,hS,ownsRow_putObj hrow _ hK rfl,hnil,hB.trans (belowK_b (w:=w) (Nat.le_refl _) W D _ _ (by simp at hD;omega) hK rfl rfl)⟩
 case stop=>
  rintro D c pre W _ _ h _;exact h.elim
set_option maxHeartbeats 2000000 in
theorem collect_in(F:Fence)(n:Nat)(hf:F.fn 91)(hf2:F.fn 118)(hro:F.round=none)(hn:4≤n)(g:Nat)(lb:Array Value)(hFg:F.fn g)(eg:∀args w,(callFunc g args).run Tryz.prog w = .ok (.enter g args) w)
 {S Sp:List Int→Prop} {N:Nat} (w:World) (hseq:SeqStopsK F (n-1-1) Tryz.prog g lb (fun x:Int=>#[.int .u64 x]) KeepsWalks S Sp N w) (hN:N<1099511627776):
 CallsIn F n Tryz.prog 91 #[.func (.func g) #[] lb] w fun e w'=>∃v xs,e = .returned v∧S xs∧w'.ownsRow w.heap.size 22 1 v xs.length (xs.map (Value.int .u64))∧(v = .slice none 0 0↔xs=[])∧Below w.heap.size w w':=by
 have hn1:1≤n:=by omega
 have HC:=appendSeq_in F (n-1) hf2 hro (by omega) g lb hFg eg w hseq hN;refine callsIn_of_wp Tryz.func91 rfl hf ?_ hro;simp only[Tryz.ntmps91,List.size_toArray,List.length_cons,List.length_nil,Nat.reduceAdd,Nat.reduceSub,Array.replicate_succ,Array.replicate_zero,List.push_toArray,List.append_toArray,List.nil_append,List.cons_append]
 gi_wp2_with (gi_at_call 118;refine HC.mono ?_;rintro e w' ⟨v,xs,rfl,h1,h2,h3,h4⟩)
 go_ret;exact⟨v,xs,rfl,h1,h2,h3,h4⟩
theorem Collect_any(g:Nat)(lb:Array Value)(eg:∀args w,(callFunc g args).run Tryz.prog w = .ok (.enter g args) w){S Sp:List Int→Prop}{N:Nat}(w:World)
 (hseq:SeqStopsK Fence.wide 2 Tryz.prog g lb (fun x:Int=>#[.int .u64 x]) KeepsWalks S Sp N w) (hN:N<1099511627776):
 Calls Tryz.prog 91 #[.func (.func g) #[] lb] w fun e w'=>∃v xs,e = .returned v∧S xs∧w'.ownsRow w.heap.size 22 1 v xs.length (xs.map (Value.int .u64))∧(v = .slice none 0 0↔xs=[])∧Below w.heap.size w w':=
 (callsIn_wide (n:=4)).1 (collect_in Fence.wide 4 trivial trivial rfl (by omega) g lb trivial eg w hseq hN)
end SrtU
end Go.Proofs.YthecngkdmnadoaaGreat

namespace Go.Proofs.YthecngkdmnadoaaGreat
open Go.RowKit Go.Sort Go.Shelf
set_option maxRecDepth 100000
namespace SrtU
theorem row_at{w:World}{g:Nat}{e:TypeId}{cur:Array Value}{xs:List Int}(hb:w.heap[g]?=some (.cells cur e (0,0)))(ht:cur.toList.take xs.length=xs.map (Value.int .u64)):At g 0 w w xs.length xs.toArray:=by
 refine⟨fun j hj=>?_,by simp,RStep.refl _ _ _ _⟩;have hj':j<xs.length:=by simpa using hj
 have h1:cur[j]?=some (.int .u64 xs[j]):=by
  have:(cur.toList.take xs.length)[j]?=(xs.map (Value.int .u64))[j]?:=by rw[ht]
  rw[List.getElem?_take,if_pos hj',List.getElem?_map,List.getElem?_eq_getElem hj']at this;simpa using this
 constructor
 · simp[World.cell?,hb,h1,hj']
 · simp[World.frozen?,hb]
theorem at_row{w0 w:World}{base g cap:Nat}{e:TypeId}{cur:Array Value}{xs:List Int}{n:Nat}(hb:w0.heap[g]?=some (.cells cur e (0,0)))(hA:At g 0 w0 w n xs.toArray)(hbase:base≤g)(h1:n≤cap)(h2:cap≤maxLen)(h3:cur.size=cap*1):
 w.ownsRow base e 1 (.slice (some ⟨g,0,none⟩) n cap) n (xs.map (Value.int .u64)):=by
 obtain⟨c',k1,k2,k3⟩:=hA.step.own cur e (0,0) hb;have hn:xs.length=n:=by simpa using hA.size
 refine⟨by simp[hn],.inr ⟨g,cap,c',rfl,hbase,k1,h1,h2,by rw[k2];exact h3,?_⟩⟩;apply List.ext_getElem?;intro j;rw[List.getElem?_take,Nat.mul_one,List.getElem?_map];by_cases hj:j<n
 · rw[if_pos hj,List.getElem?_eq_getElem (by omega:j<xs.length)]
   have:=(hA.holds j (by simpa[hn]using hj)).1;simp[World.cell?,k1,show j<xs.length by omega]at this;simpa using this
 · rw[if_neg hj,List.getElem?_eq_none (by omega)]
   rfl
theorem sorted_length(xs:List Int):(sorted xs).length=xs.length:=List.length_mergeSort _
set_option maxHeartbeats 4000000 in
theorem Sorted_any(g:Nat)(lb:Array Value)(eg:∀args w,(callFunc g args).run Tryz.prog w = .ok (.enter g args) w){S Sp:List Int→Prop}{N:Nat}(w:World)
 (hseq:SeqStopsK Fence.wide 2 Tryz.prog g lb (fun x:Int=>#[.int .u64 x]) KeepsWalks S Sp N w) (hN:N<1099511627776) (hS:∀xs,S xs→xs.length≤N):
 Calls Tryz.prog 69 #[.func (.func g) #[] lb] w fun e w'=>∃v xs,e = .returned v∧S xs∧w'.ownsRow w.heap.size 22 1 v xs.length ((sorted xs).map (Value.int .u64))∧(v = .slice none 0 0↔xs=[])∧Below w.heap.size w w':=by
 have HC:Hid (Calls Tryz.prog 91 #[.func (.func g) #[] lb] w fun e w'=>∃v xs,e = .returned v∧S xs∧w'.ownsRow w.heap.size 22 1 v xs.length (xs.map (Value.int .u64))∧(v = .slice none 0 0↔xs=[])∧Below w.heap.size w w'):=Collect_any g lb eg w hseq hN;have HS:Hid (∀xs,S xs→xs.length≤N):=hS;clear hseq hS;go_enter Tryz.func69,Tryz.ntmps69;go_wp2_with (go_at_call 91;refine HC.out.mono ?_;rintro e w1 ⟨v,xs,rfl,h1,h2,h3,h4⟩);have hl:xs.length≤N:=HS.out xs h1;obtain⟨hr1,hr2⟩:=h2;rcases hr2 with⟨rfl,hn0⟩|⟨b,cap,cur,rfl,hb1,hb2,hb3,hb4,hb5,hb6⟩
 · have hx:xs=[]:=h3.1 rfl
   subst hx;go_wp2_with (go_at_call 63;refine(Sort_nil _).mono ?_;rintro e w2 ⟨rfl,rfl⟩);go_ret;exact⟨_,[],rfl,h1,⟨by simp[sorted],.inl ⟨rfl,rfl⟩⟩,by simp,h4⟩
 · have hA:=row_at hb2 (by simpa using hb6)
   have HA:Hid (Calls Tryz.prog 63 #[.slice (some ⟨b,0,none⟩) xs.length cap] w1 fun e w'=>e = .returned (.tuple #[])∧At b 0 w1 w' xs.length (sorted xs).toArray):=by
    have:=Sort_any b 0 cap xs.length xs.toArray w1 w1 hA (Array.getElem?_eq_some_iff.1 hb2).1 (by omega);show Calls _ _ _ _ _;simpa using this
   clear hA;have HR:Hid (Below w.heap.size w w1∧w1.heap[b]?=some (.cells cur 22 (0,0))∧w.heap.size≤b∧xs.length≤cap∧cap≤maxLen∧cur.size=cap*1):=⟨h4,hb2,hb1,hb3,hb4,hb5⟩;clear h4 hb2 hb3 hb4 hb5 hb6 hr1;go_wp2_with (go_at_call 63;refine HA.out.mono ?_;rintro e w2 ⟨rfl,hA2⟩);go_ret;obtain⟨r1,r2,r3,r4,r5,r6⟩:=HR.out;refine⟨_,xs,rfl,h1,at_row r2 hA2 r3 r4 r5 r6,h3,?_⟩;exact⟨hA2.step.os.trans r1.os,hA2.step.tape.trans r1.tape,hA2.step.output.trans r1.output,Nat.le_trans r1.size hA2.step.size,fun k hk=>(hA2.step.block k (Nat.lt_of_lt_of_le hk r1.size) (by omega)).trans (r1.block k hk)⟩
end SrtU
end Go.Proofs.YthecngkdmnadoaaGreat

namespace Go.Proofs.YthecngkdmnadoaaGreat
open Go.RowKit Go.Shelf
set_option maxRecDepth 100000
namespace IterL
set_option maxHeartbeats 4000000 in
theorem rising_any{α:Type}{f:α→Value}{m:List (Int×α)}{bo:Option Nat}(w:World)(hm:(keys m).Nodup)(hl:m.length<1099511627776)
 (hr:∀W,Below w.heap.size w W→∃ob,(Instr.range 70 (.map bo)).run Tryz.prog W = .ok (.pointer (some ⟨W.heap.size,0,none⟩)) (W.alloc ob)∧Ranges .u64 f (W.alloc ob) bo W.heap.size m []):
 Calls Tryz.prog 62 #[.map bo] w fun e w'=>∃v,e = .returned v∧w'.ownsRow w.heap.size 22 1 v m.length ((SrtU.sorted (keys m)).map (Value.int .u64))∧(v = .slice none 0 0↔m=[])∧Below w.heap.size w w':=by
 have hB:Below w.heap.size w (w.alloc (.cells #[.map bo] 70)):=(Below.refl _ w).alloc (Nat.le_refl _) _;have hst:=keys1_stops (f:=f) (m:=m) (bo:=bo) Fence.wide 2 trivial rfl (by omega) w.heap.size (w.alloc (.cells #[.map bo] 70)) (by simp) (by go_simp) hm (fun W hW=>hr W (hB.trans (hW.mono hB.size)))
 have HC:Hid (Calls Tryz.prog 69 #[.func (.func 103) #[] #[.pointer (some ⟨w.heap.size,0,none⟩)]] (w.alloc (.cells #[.map bo] 70)) fun e w'=>∃v xs,e = .returned v∧xs.Perm (keys m)∧w'.ownsRow (w.alloc (.cells #[.map bo] 70)).heap.size 22 1 v xs.length ((SrtU.sorted xs).map (Value.int .u64))∧(v = .slice none 0 0↔xs=[])∧Below (w.alloc (.cells #[.map bo] 70)).heap.size (w.alloc (.cells #[.map bo] 70)) w'):=
  SrtU.Sorted_any 103 _ (enters_of Tryz.func103 (by kernel_rfl) rfl) _ hst hl (fun xs h=>by rw[h.length_eq];simp[keys])
 clear hr hst;have HB:Hid (Below w.heap.size w (w.alloc (.cells #[.map bo] 70))):=hB;clear hB;go_enter Tryz.func62,Tryz.ntmps62;go_wp2_with (first|(go_at_call 80;refine(Keys_any bo _).mono ?_;rintro e w1 ⟨rfl,rfl⟩)|(go_at_call 69;refine HC.out.mono ?_;rintro e w2 ⟨v,xs,rfl,h1,h2,h3,h4⟩));go_ret;have hlen:xs.length=m.length:=by rw[h1.length_eq];simp[keys]
 have hso:SrtU.sorted xs=SrtU.sorted (keys m):=mergeSort_of_perm_i h1;rw[hlen,hso]at h2;refine⟨v,rfl,?_,?_,HB.out.trans (h4.mono HB.out.size)⟩
 · obtain⟨g1,g2⟩:=h2
   refine⟨g1,g2.imp id ?_⟩;rintro⟨g,cap,cur,k1,k2,k3⟩;exact⟨g,cap,cur,k1,Nat.le_trans HB.out.size k2,k3⟩
 · rw[h3]
   constructor
   · intro hx
     subst hx;exact List.eq_nil_of_length_eq_zero hlen.symm
   · intro hx
     subst hx;exact List.eq_nil_of_length_eq_zero hlen
end IterL
end Go.Proofs.YthecngkdmnadoaaGreat
