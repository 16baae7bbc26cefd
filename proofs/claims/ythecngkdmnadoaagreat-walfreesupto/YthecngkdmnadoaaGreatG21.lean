/- Texts that were written apart, joined. -/
import Derived.Test.YthecngkdmnadoaaGreatG20
import Derived.Handy
import Derived.Lib.SlKeysI
namespace Go.Proofs.YthecngkdmnadoaaGreat
open Go.RowKit Go.Shelf
set_option maxRecDepth 100000
attribute [local go_sem] Oper.semAt_some
namespace IterF
set_option maxHeartbeats 4000000 in
theorem keys1_stops{α:Type}{f:α→Value}{m:List (Int×α)}{bo:Option Nat}(F:Fence)(n:Nat)(hf:F.fn 92)(hro:F.round=none)(hn:1≤n)(Bm:Nat)(w:World)(hBm:Bm<w.heap.size)
 (hc:w.cell? ⟨Bm,0,none⟩=some (.map bo)) (hm:(keys m).Nodup)
 (hr:∀W,Below w.heap.size w W→∃ob,(Instr.range 71 (.map bo)).run Tryz.prog W = .ok (.pointer (some ⟨W.heap.size,0,none⟩)) (W.alloc ob)∧Ranges .u64 f (W.alloc ob) bo W.heap.size m []):
 SeqStopsK F n Tryz.prog 92 #[.pointer (some ⟨Bm,0,none⟩)] (fun x:Int=>#[.int .u64 x]) KeepsWalks (fun xs=>xs.Perm (keys m)) (fun _=>True) m.length w:=by
 intro l J Jx W hW hJ hJx hY h0;have hcW:W.cell? ⟨Bm,0,none⟩=some (.map bo):=(World.cell?_of_block (a:=⟨Bm,0,none⟩) (hW.block Bm hBm)).trans hc;have hrW:=hr W hW;have HY:Hid (∀pre x W1,J pre W1→pre.length<m.length→YieldAt F (n-1) Tryz.prog l #[.int .u64 x] W1 fun e W'=>(e = .returned (.bool true)∧J (pre++[x]) W'∧KeepsWalks W1 W')∨(e = .returned (.bool false)∧Jx (pre++[x]) W')):=hY;clear hY hr hc;refine callsIn_of_wp Tryz.func92 rfl hf ?_ hro;simp only[Tryz.ntmps92,List.size_toArray,List.length_cons,List.length_nil,Nat.reduceAdd,Nat.reduceSub,Array.replicate_succ,Array.replicate_zero,List.push_toArray,List.append_toArray,List.nil_append,List.cons_append]
 gi_wp2_with (first
  |(gi_at_range;refine wpListIn_range_at hrW rfl _ rfl rfl ?_;intro ob hR0)
  |gi_in)
 go_frame
 gi_loopw [3] (fun _ wr=>∃done:List (Int×α),Ranges .u64 f wr bo W.heap.size m done∧J (keys done) wr) (fun _ wr=>m.length-seenAt wr W.heap.size)
 case atStart=>exact⟨[],hR0,hJ [] W _ none h0 (World.grownBy_alloc W ob none) (fun r e=>by cases e)⟩
 case round=>
  obtain⟨done,hR,hJs⟩:=hrel
  gi_wp2_with (first
   |(gi_at_next;refine wpListIn_next_at hR rfl _ rfl rfl ?_ ?_)
   |gi_in)
  · intro hall
    gi_wp2
    go_end0
    exact⟨⟨_,rfl⟩,.inl ⟨keys done,hR.perm hall hm,hJs⟩⟩
  · intro k v w2 hmem hnk hR2 hone hen
    have hJ2:J (keys done) w2:=hJ (keys done) wr w2 (some W.heap.size) hJs hone.grown (fun r e=>by cases e;exact⟨Nat.le_refl _,hR.iter_walk⟩);have hs1:=hR.seen;have hs2:=hR2.seen;(have hlen:(keys done).length<m.length:=by have:=hs2.2.1;simp[keys]at this ⊢;omega);obtain⟨fn,tmps,assign,body,hy,hRr⟩:=HY.out (keys done) k w2 hJ2 hlen;have HS1:Hid (seenAt wr W.heap.size=done.length∧done.length<m.length):=⟨hs1.1,by simpa[keys]using hlen⟩;clear hs1 hs2 hlen
    gi_wp2
    refine hRr.mono ?_;rintro e W3 (⟨rfl,hJ3,hk3⟩|⟨rfl,hJ3⟩)
    · gi_wp2
      have hR3:=hR2.walks hk3
      go_roundw
      case rel=>exact⟨done++[(k,v)],hR3,by simpa[keys]using hJ3⟩
      case measure=>
       have:=hR3.seen.1;have h1:=HS1.out;rw[this,h1.1];simp;omega
    · gi_wp2
      go_returns;exact⟨⟨_,rfl⟩,.inr ⟨_,trivial,hJ3⟩⟩
set_option maxHeartbeats 1000000 in
theorem Keys_any(bo:Option Nat)(w:World):Calls Tryz.prog 70 #[.map bo] w fun e w'=>e = .returned (.func (.func 92) #[] #[.pointer (some ⟨w.heap.size,0,none⟩)])∧w'=w.alloc (.cells #[.map bo] 71):=by
 go_enter Tryz.func70,Tryz.ntmps70;go_wp2;go_ret;exact⟨rfl,rfl⟩
end IterF
end Go.Proofs.YthecngkdmnadoaaGreat

namespace Go.Proofs.YthecngkdmnadoaaGreat
open Go.RowKit Go.Shelf
set_option maxRecDepth 100000
namespace IterF
set_option maxHeartbeats 4000000 in
theorem rising_any{α:Type}{f:α→Value}{m:List (Int×α)}{bo:Option Nat}(w:World)(hm:(keys m).Nodup)(hl:m.length<1099511627776)
 (hr:∀W,Below w.heap.size w W→∃ob,(Instr.range 71 (.map bo)).run Tryz.prog W = .ok (.pointer (some ⟨W.heap.size,0,none⟩)) (W.alloc ob)∧Ranges .u64 f (W.alloc ob) bo W.heap.size m []):
 Calls Tryz.prog 44 #[.map bo] w fun e w'=>∃v,e = .returned v∧w'.ownsRow w.heap.size 22 1 v m.length ((SrtU.sorted (keys m)).map (Value.int .u64))∧(v = .slice none 0 0↔m=[])∧Below w.heap.size w w':=by
 have hB:Below w.heap.size w (w.alloc (.cells #[.map bo] 71)):=(Below.refl _ w).alloc (Nat.le_refl _) _;have hst:=keys1_stops (f:=f) (m:=m) (bo:=bo) Fence.wide 2 trivial rfl (by omega) w.heap.size (w.alloc (.cells #[.map bo] 71)) (by simp) (by go_simp) hm (fun W hW=>hr W (hB.trans (hW.mono hB.size)))
 have HC:Hid (Calls Tryz.prog 69 #[.func (.func 92) #[] #[.pointer (some ⟨w.heap.size,0,none⟩)]] (w.alloc (.cells #[.map bo] 71)) fun e w'=>∃v xs,e = .returned v∧xs.Perm (keys m)∧w'.ownsRow (w.alloc (.cells #[.map bo] 71)).heap.size 22 1 v xs.length ((SrtU.sorted xs).map (Value.int .u64))∧(v = .slice none 0 0↔xs=[])∧Below (w.alloc (.cells #[.map bo] 71)).heap.size (w.alloc (.cells #[.map bo] 71)) w'):=
  SrtU.Sorted_any 92 _ (enters_of Tryz.func92 (by kernel_rfl) rfl) _ hst hl (fun xs h=>by rw[h.length_eq];simp[keys])
 clear hr hst;have HB:Hid (Below w.heap.size w (w.alloc (.cells #[.map bo] 71))):=hB;clear hB;go_enter Tryz.func44,Tryz.ntmps44;go_wp2_with (first|(go_at_call 70;refine(Keys_any bo _).mono ?_;rintro e w1 ⟨rfl,rfl⟩)|(go_at_call 69;refine HC.out.mono ?_;rintro e w2 ⟨v,xs,rfl,h1,h2,h3,h4⟩));go_ret;have hlen:xs.length=m.length:=by rw[h1.length_eq];simp[keys]
 have hso:SrtU.sorted xs=SrtU.sorted (keys m):=mergeSort_of_perm_i h1;rw[hlen,hso]at h2;refine⟨v,rfl,?_,?_,HB.out.trans (h4.mono HB.out.size)⟩
 · obtain⟨g1,g2⟩:=h2
   refine⟨g1,g2.imp id ?_⟩;rintro⟨g,cap,cur,k1,k2,k3⟩;exact⟨g,cap,cur,k1,Nat.le_trans HB.out.size k2,k3⟩
 · rw[h3]
   constructor
   · intro hx
     subst hx;exact List.eq_nil_of_length_eq_zero hlen.symm
   · intro hx
     subst hx;exact List.eq_nil_of_length_eq_zero hlen
end IterF
end Go.Proofs.YthecngkdmnadoaaGreat
