/- Texts that were written apart, joined. -/
import Derived.Test.YthecngkdmnadoaaGreatRows
import Derived.WalkKit
import Derived.ProofKit
import Derived.OpenShut
import Derived.WalkSmall
import Derived.Laws.BytesArg
import Derived.Laws.AppendOwnNone
import Derived.Laws.BitsAllLaws
namespace Go.Proofs.YthecngkdmnadoaaGreat
open Go.RowKit
set_option maxRecDepth 100000
theorem infoByte:(Tryz.prog.info? 5).map (fun i=>(i.zero,i.size,i.bytes))=some (some (.int .u8 0),1,1):=by kernel_rfl
theorem lt_of_cell{w:World}{b o:Nat}{v:Value}(h:w.cell? ⟨b,o,none⟩=some v):b<w.heap.size:=World.block_lt_of_cell? w ⟨b,o,none⟩ h
abbrev bv(n:Nat):Value := .int .u8 (n:Int)
def Row(N:Nat)(w:World)(v:Value)(xs:List Nat):Prop:=
 ∃ao cap,v = .slice ao xs.length cap∧xs.length≤cap∧(ao=none→cap=0)∧(0<xs.length→∃b off,ao=some ⟨b,off,none⟩∧b<N∧∀i,i<xs.length→w.cell? ⟨b,off+i,none⟩=some (bv (xs.getD i 0)))
def Bytes(B:Nat)(w:World)(v:Value)(xs:List Nat):Prop:=w.ownsRow B 5 1 v xs.length (xs.map bv)
structure But(r:Nat)(w w':World):Prop where
 os:w'.os=w.os
 tape:w'.tape=w.tape
 output:w'.output=w.output
 size:w.heap.size≤w'.heap.size
 block:∀k,k<w.heap.size→k≠r→w'.heap[k]?=w.heap[k]?
theorem But.refl(r:Nat)(w:World):But r w w:=⟨rfl,rfl,rfl,Nat.le_refl _,fun _ _ _=>rfl⟩
theorem But.trans{r:Nat}{a b c:World}(h:But r a b)(k:But r b c):But r a c:=
 ⟨k.os.trans h.os,k.tape.trans h.tape,k.output.trans h.output,Nat.le_trans h.size k.size,fun i hi hr=>(k.block i (Nat.lt_of_lt_of_le hi h.size) hr).trans (h.block i hi hr)⟩
theorem But.of_below{r:Nat}{w w':World}(h:Below w.heap.size w w'):But r w w':=⟨h.os,h.tape,h.output,h.size,fun k hk _=>h.block k hk⟩
theorem But.below{r B:Nat}{w w':World}(h:But r w w')(hr:B≤r)(hB:B≤w.heap.size):Below B w w':=
 ⟨h.os,h.tape,h.output,h.size,fun k hk=>h.block k (by omega) (by omega)⟩
theorem But.setCell{r:Nat}{a w:World}(h:But r a w)(o:Nat)(u:Value):But r a (w.setCell ⟨r,o,none⟩ u):=
 h.trans ⟨rfl,rfl,rfl,by simp[World.setCell],fun k _ hk=>Below.heap_setCell _ _ _ _ hk⟩
theorem But.drew{r:Nat}{a w:World}(h:But r a w):But r a w.drew:=⟨h.os,h.tape,h.output,h.size,h.block⟩
theorem below_drewN{B:Nat}{a w:World}(h:Below B a w)(n:Nat):Below B a (w.drewN n):=⟨h.os,h.tape,h.output,h.size,h.block⟩
theorem but_drewN{B:Nat}{a w:World}(h:But B a w)(n:Nat):But B a (w.drewN n):=⟨h.os,h.tape,h.output,h.size,h.block⟩
theorem Bytes.nil(B:Nat)(w:World):Bytes B w (.slice none 0 0) []:=World.ownsRow_nil _ _ _ _
theorem Bytes.but{B r:Nat}{w w':World}{v:Value}{xs:List Nat}(h:Bytes B w v xs)(hb:But r w w')(hr:r<B):Bytes B w' v xs:=by
 obtain⟨hl,hn|⟨g,cap,cur,rfl,h1,hg,h2⟩⟩:=h
 · exact⟨hl,.inl hn⟩
 · exact⟨hl,.inr ⟨g,cap,cur,rfl,h1,(hb.block g (Array.getElem?_eq_some_iff.1 hg).1 (by omega)).trans hg,h2⟩⟩
theorem Bytes.below{B:Nat}{w w':World}{v:Value}{xs:List Nat}(h:Bytes B w v xs)(hb:Below w.heap.size w w'):Bytes B w' v xs:=by
 obtain⟨hl,hn|⟨g,cap,cur,rfl,h1,hg,h2⟩⟩:=h
 · exact⟨hl,.inl hn⟩
 · exact⟨hl,.inr ⟨g,cap,cur,rfl,h1,(hb.block g (Array.getElem?_eq_some_iff.1 hg).1).trans hg,h2⟩⟩
theorem Bytes.mono{B B':Nat}{w:World}{v:Value}{xs:List Nat}(h:Bytes B w v xs)(hb:B'≤B):Bytes B' w v xs:=by
 obtain⟨hl,hn|⟨g,cap,cur,rfl,h1,hg,h2⟩⟩:=h
 · exact⟨hl,.inl hn⟩
 · exact⟨hl,.inr ⟨g,cap,cur,rfl,Nat.le_trans hb h1,hg,h2⟩⟩
theorem Row.below{N:Nat}{w w':World}{v:Value}{xs:List Nat}(h:Row N w v xs)(hb:Below N w w'):Row N w' v xs:=by
 obtain⟨ao,cap,rfl,hcap,hno,hc⟩:=h;refine⟨ao,cap,rfl,hcap,hno,fun h0=>?_⟩;obtain⟨b,off,rfl,hN,hd⟩:=hc h0;exact⟨b,off,rfl,hN,fun i hi=>(hb.cell (p:=⟨b,off+i,none⟩) hN).trans (hd i hi)⟩
theorem Row.mono{N M:Nat}{w:World}{v:Value}{xs:List Nat}(h:Row N w v xs)(hN:N≤M):Row M w v xs:=by
 obtain⟨ao,cap,rfl,hcap,hno,hc⟩:=h;refine⟨ao,cap,rfl,hcap,hno,fun h0=>?_⟩;obtain⟨b,off,rfl,hb,hd⟩:=hc h0;exact⟨b,off,rfl,by omega,hd⟩
theorem Bytes.row{B:Nat}{w:World}{v:Value}{xs:List Nat}(h:Bytes B w v xs):Row w.heap.size w v xs:=by
 obtain⟨hl,hn|⟨g,cap,cur,rfl,hb,hg,h1,h2,h3,h4⟩⟩:=h
 · obtain⟨rfl,h0⟩:=hn
   have e:xs=[]:=List.length_eq_zero_iff.1 h0;subst e;exact⟨none,0,rfl,Nat.le_refl _,fun _=>rfl,fun h=>by simp at h⟩
 · refine⟨some ⟨g,0,none⟩,cap,rfl,h1,(fun h=>by cases h),fun h0=>⟨g,0,rfl,(Array.getElem?_eq_some_iff.1 hg).1,fun i hi=>?_⟩⟩
   have hc:cur[i]?=some (bv (xs.getD i 0)):=by
    (have e:(cur.toList.take (xs.length*1))[i]?=(xs.map bv)[i]?:=by rw[h4]);rw[List.getElem?_take,if_pos (by omega)]at e;rw[←Array.getElem?_toList,e,List.getElem?_map,List.getElem?_eq_getElem hi];simp[List.getD_eq_getElem?_getD,List.getElem?_eq_getElem hi]
   simp only[World.cell?,hg,Nat.zero_add];simpa using hc
theorem Row.shape{N:Nat}{w:World}{v:Value}{xs:List Nat}(h:Row N w v xs):∃ao cap,v = .slice ao xs.length cap∧xs.length≤cap:=by
 obtain⟨ao,cap,rfl,hcap,hno,hc⟩:=h;exact⟨ao,cap,rfl,hcap⟩
def strB(xs:List Nat):ByteArray:=strOfNums (xs.map Int.ofNat)
theorem Row.str{N:Nat}{w:World}{v:Value}{xs:List Nat}(h:Row N w v xs):(convert 34 9 v).run Tryz.prog w = .ok (.string (strB xs)) w:=by
 obtain⟨ao,cap,rfl,hcap,hno,hc⟩:=h;by_cases h0:0<xs.length
 · obtain⟨b,off,rfl,hN,hd⟩:=hc h0
   refine run_convert_bytes_arg w 34 5 Tryz.underlying34 Tryz.underlying5 b off xs.length cap (xs.map Int.ofNat) (by simp) (fun i hi=>?_) 9 Tryz.underlying9;rw[hd i hi];simp[List.getD_eq_getElem?_getD,List.getElem?_eq_getElem hi]
 · obtain rfl:xs=[]:=List.length_eq_zero_iff.1 (by omega)
   cases ao with
   |none=>exact run_convert_bytes_nil w 34 5 Tryz.underlying34 Tryz.underlying5 0 cap 9 Tryz.underlying9
   |some a=>
    have hl:(loadCells a 0).run Tryz.prog w = .ok (([]:List Int).map (Value.int .u8)).toArray w:=run_loadCells_list (P:=Tryz.prog) w a [] (fun j v hj=>by simp at hj);show(convert 34 9 (.slice (some a) 0 cap)).run Tryz.prog w=_;rw[run_convert_bytes_string w 34 9 5 _ 0 cap Tryz.underlying34 Tryz.underlying5 Tryz.underlying9,run_bytesToString w _ 0 cap [] hl];rfl
theorem append_row{w:World}{ops:Array Oper}{rest:List Oper}{o:Oper}{a:Act}{Q:Exit→Act→World→Prop}(hgd:Region.wanted o (yielded ops a.tmps)=true)(s x:Operand)
 (ho:o.op = .call { callee := .builtin .append,args:=#[s,x],argTypes:=#[34,34] }) (B N:Nat) (v v2:Value) (xs ys:List Nat)
 (hs:a.eval s=v) (hown:Bytes B w v xs) (hx:a.eval x=v2) (hsrc:Row N w v2 ys) (hl:xs.length+ys.length≤140737488355328) (hB:B≤w.heap.size)
 (h:∀v' w',Bytes B w' v' (xs++ys)→Below B w w'→w.grownBy w' v.ownBlock→wpList Tryz.prog ops Q rest (a.put o.dst v') w'):wpList Tryz.prog ops Q (o::rest) a w:=by
 obtain⟨i0,hi,hz0,hz1,hz2⟩:=info_parts infoByte;refine wpList_step fun K hK=>?_
 rw[if_pos hgd];obtain⟨ao,cap,rfl,hcap,hno,hc⟩:=hsrc;cases ao with
 |none=>
  have e:ys=[]:=by
   cases ys with
   |nil=>rfl
   |cons y r=>obtain⟨b,off,e,_⟩:=hc (by simp);cases e
  subst e;obtain rfl:=hno rfl;have hrun:=run_append_owned_none (P:=Tryz.prog) (w:=w) B 34 o.type 5 i0 1 Tryz.underlying34 hi v xs.length (xs.map bv) hown;unfold Oper.wp;simp[execOp,ho,resolve,invoke,builtin,hs,hx,hrun,Result.andThen];exact hK _ _ (h _ _ (by simpa using hown) (Below.refl _ _) ⟨rfl,rfl,rfl,Nat.le_refl _,fun _ _ _=>rfl⟩)
 |some ad=>
  refine wp_append_own w s x 34 ho B 5 i0 (.int .u8 0) 1 1 Tryz.underlying34 hi hz0 hz1 hz2 rfl (by decide) v xs.length _ hs hown ad ys.length cap (ys.map bv) hx (by simp) ?_ ?_ ?_ ?_ hB ?_
  · intro j u hj
    have hjl:j<ys.length:=by
     have:=(List.getElem?_eq_some_iff.1 hj).1;simpa using this
    obtain⟨b,off,e2,_,hc2⟩:=hc (by omega);obtain rfl:=Option.some.inj e2;have:=hc2 j hjl;(have hadd:(⟨b,off,none⟩:Addr).add j=⟨b,off+j,none⟩:=by unfold Addr.add;split<;>simp_all);rw[hadd,this];rw[List.getElem?_map,List.getElem?_eq_getElem hjl]at hj;simp at hj;rw[←hj];simp[List.getD_eq_getElem?_getD,List.getElem?_eq_getElem hjl]
  · intro u hu
    obtain⟨z,_,rfl⟩:=List.mem_map.1 hu;rfl
  · unfold maxLen;omega
  · omega
  · intro v' w' h5 h6 _
    refine hK _ _ (h v' w' ?_ ((Below.refl B w).grown h6 hB (fun k hk=>(World.ownsRow.lt hown k hk).1)) h6);unfold Bytes;simpa using h5
end Go.Proofs.YthecngkdmnadoaaGreat

namespace Go.Proofs.YthecngkdmnadoaaGreat
def uw(n:Nat):List Nat:=if n<128 then [n]else (n%128+128)::uw (n/128)
termination_by n
theorem uw_lt{n:Nat}(h:n<128):uw n=[n]:=by rw[uw,if_pos h]
theorem uw_ge{n:Nat}(h:128≤n):uw n=(n%128+128)::uw (n/128):=by rw[uw,if_neg (by omega)]
theorem uw_len:∀(k n:Nat),n<128 ^ k→0<k→0<(uw n).length∧(uw n).length≤k
 |0,_,_,h=>by omega
 |1,n,h,_=>by rw[uw_lt (by simpa using h)];simp
 |k+2,n,h,_=>by
  by_cases h1:n<128
  · rw[uw_lt h1];simp
  · rw[uw_ge (by omega)]
    have:=uw_len (k+1) (n/128) (by rw[Nat.div_lt_iff_lt_mul (by decide)];rw[Nat.pow_succ]at h;exact h) (by omega);simp only[List.length_cons];omega
theorem uw_len10{n:Nat}(h:n<18446744073709551616):0<(uw n).length∧(uw n).length≤10:=uw_len 10 n (Nat.lt_of_lt_of_le h (by decide)) (by decide)
theorem uw_byte:∀(n:Nat),∀x∈uw n,x<256:=by
 intro n
 induction n using Nat.strongRecOn with
 |_ n ih=>
  intro x hx;by_cases h:n<128
  · rw[uw_lt h]at hx;simp at hx;omega
  · rw[uw_ge (by omega)]at hx
    rcases List.mem_cons.1 hx with rfl|hx
    · omega
    · exact ih (n/128) (by omega) x hx
def num:List Nat→Nat→Nat→Nat×Nat×Nat
 |[],_,_=>(0,0,20)
 |c::r,i,n=>
  if i=9∧1<c then (0,0,21)else if 0<i∧c=0 then (0,0,21)
  else if c<128 then (n+c*128 ^ i,i+1,0)else num r (i+1) (n+(c-128)*128 ^ i)
def front(xs:List Nat)(most:Nat):Nat×Nat×Nat:=
 if (num xs 0 0).2.2=0∧most<(num xs 0 0).1 then (0,0,22)else num xs 0 0
theorem num_form9{c:Nat}{r:List Nat}{n:Nat}(h:1<c):num (c::r) 9 n=(0,0,21):=by rw[num,if_pos ⟨rfl,h⟩]
theorem num_form0{r:List Nat}{i n:Nat}(h:0<i):num (0::r) i n=(0,0,21):=by rw[num,if_neg (by omega),if_pos ⟨h,rfl⟩]
theorem num_last{c:Nat}{r:List Nat}{i n:Nat}(h:c<128)(h9:i=9→c≤1)(h0:0<i→c≠0):num (c::r) i n=(n+c*128 ^ i,i+1,0):=by
 rw[num,if_neg (by omega),if_neg (by omega),if_pos h]
theorem num_more{c:Nat}{r:List Nat}{i n:Nat}(h:128≤c)(h9:i≠9):num (c::r) i n=num r (i+1) (n+(c-128)*128 ^ i):=by
 rw[num,if_neg (by omega),if_neg (by omega),if_neg (by omega)]
theorem num_facts:∀(xs:List Nat) (i n:Nat),i≤9→n<128 ^ i→(∀x∈xs,x<256) →
 ((num xs i n).2.2=0→i<(num xs i n).2.1∧(num xs i n).2.1≤i+xs.length∧(num xs i n).2.1≤10∧(num xs i n).1<18446744073709551616) ∧
 ((num xs i n).2.2≠0→(num xs i n).1=0∧(num xs i n).2.1=0∧((num xs i n).2.2=20∨(num xs i n).2.2=21))
 |[],i,n,_,_,_=>by simp[num]
 |c::r,i,n,hi,hn,hx=>by
  rw[num]
  split
  · simp
  split
  · simp
  split
  · rename_i h1 h2 h3
    have hp:n+c*128 ^ i<18446744073709551616:=by
     by_cases h9:i=9
     · subst h9
       (have hc:c≤1:=by omega);have:c*128 ^ 9≤1*128 ^ 9:=Nat.mul_le_mul_right _ hc;(have e:(128:Nat) ^ 9=9223372036854775808:=by decide);omega
     · have:(c+1)*128 ^ i≤128*128 ^ i:=Nat.mul_le_mul_right _ (by omega)
       rw[Nat.add_mul]at this;(have e:128*128 ^ i=128 ^ (i+1):=by rw[Nat.pow_succ,Nat.mul_comm]);have e2:(128:Nat) ^ (i+1)≤128 ^ 9:=Nat.pow_le_pow_right (by decide) (by omega);(have e3:(128:Nat) ^ 9=9223372036854775808:=by decide);omega
    simp only[List.length_cons];exact⟨fun _=>⟨by omega,by omega,by omega,hp⟩,fun h=>absurd rfl h⟩
  · rename_i h1 h2 h3
    have hc:c<256:=hx c (by simp);have hi9:i≠9:=by omega
    have:=num_facts r (i+1) (n+(c-128)*128 ^ i) (by omega) (by
     have:(c-128+1)*128 ^ i≤128*128 ^ i:=Nat.mul_le_mul_right _ (by omega);rw[Nat.add_mul]at this;rw[Nat.pow_succ,Nat.mul_comm (128 ^ i)];omega) (fun x h=>hx x (by simp[h]))
    simp only[List.length_cons];exact⟨fun h=>by have:=this.1 h;omega,this.2⟩
theorem front_facts(xs:List Nat)(most:Nat)(hx:∀x∈xs,x<256):
 ((front xs most).2.2=0→0<(front xs most).2.1∧(front xs most).2.1≤xs.length∧(front xs most).2.1≤10∧(front xs most).1<18446744073709551616∧(front xs most).1≤most∧front xs most=num xs 0 0) ∧
 ((front xs most).2.2≠0→(front xs most).1=0∧(front xs most).2.1=0∧(front xs most).2.2<100):=by
 have h:=num_facts xs 0 0 (by decide) (by decide) hx;unfold front
 split
 · simp
 · rename_i h2
   refine⟨fun h3=>?_,fun h3=>?_⟩
   · have:=h.1 h3;exact⟨by omega,by omega,by omega,by omega,by omega,rfl⟩
   · have:=h.2 h3;exact⟨by omega,by omega,by omega⟩
theorem num_uw:∀(k m i n:Nat) (r:List Nat),i+k=10→m<128 ^ k→(m*128 ^ i<18446744073709551616)→(0<i→m≠0)→num (uw m++r) i n=(n+m*128 ^ i,i+(uw m).length,0)
 |0,m,i,n,r,hk,hm,hb,h0=>by
  have:m=0:=by simpa using hm
  have:=h0 (by omega);omega
 |k+1,m,i,n,r,hk,hm,hb,h0=>by
  by_cases h:m<128
  · rw[uw_lt h]
    simp only[List.cons_append,List.nil_append,List.length_singleton];refine num_last h (fun h9=>?_) (fun hi=>h0 hi);subst h9;(have e:(128:Nat) ^ 9=9223372036854775808:=by decide);rw[e]at hb;omega
  · have hi9:i≠9:=by
     intro h9;subst h9;(have e:(128:Nat) ^ 9=9223372036854775808:=by decide);rw[e]at hb;omega
    rw[uw_ge (by omega),List.cons_append,num_more (by omega) hi9];have e1:m/128*128 ^ (i+1)+m%128*128 ^ i=m*128 ^ i:=by
     rw[Nat.pow_succ,Nat.mul_comm (128 ^ i) 128,←Nat.mul_assoc,←Nat.add_mul];congr 1;omega
    rw[num_uw k (m/128) (i+1) _ r (by omega) (by rw[Nat.div_lt_iff_lt_mul (by decide)];rw[Nat.pow_succ]at hm;exact hm) (by omega) (fun _=>by omega)];simp only[List.length_cons,Nat.add_sub_cancel];refine Prod.ext ?_ (Prod.ext ?_ rfl)
    · show n+m%128*128 ^ i+m/128*128 ^ (i+1)=n+m*128 ^ i
      omega
    · show i+1+(uw (m/128)).length=i+((uw (m/128)).length+1)
      omega
theorem num_write{m:Nat}(h:m<18446744073709551616)(r:List Nat):num (uw m++r) 0 0=(m,(uw m).length,0):=by
 have:=num_uw 10 m 0 0 r rfl (Nat.lt_of_lt_of_le h (by decide)) (by simpa using h) (fun h=>absurd h (by decide));simpa using this
theorem num_back:∀(xs:List Nat) (i n:Nat),n<128 ^ i→(∀x∈xs,x<256)→(num xs i n).2.2=0 →
 ∃m,(num xs i n).1=n+m*128 ^ i∧xs.take ((num xs i n).2.1-i)=uw m∧(0<i→m≠0)
 |[],i,n,_,_,h=>by simp[num]at h
 |c::r,i,n,hn,hx,h=>by
  rw[num]at h ⊢
  split at h
  · simp at h
  split at h
  · simp at h
  split at h
  · rename_i h1 h2 h3
    rw[if_neg h1,if_neg h2,if_pos h3];refine⟨c,rfl,?_,fun h0=>by omega⟩;show List.take (i+1-i) (c::r)=uw c;rw[uw_lt h3,show i+1-i=1 by omega];rfl
  · rename_i h1 h2 h3
    rw[if_neg h1,if_neg h2,if_neg h3];have hc:c<256:=hx c (by simp);have hn':n+(c-128)*128 ^ i<128 ^ (i+1):=by
     have:(c-128+1)*128 ^ i≤128*128 ^ i:=Nat.mul_le_mul_right _ (by omega);rw[Nat.add_mul]at this;rw[Nat.pow_succ,Nat.mul_comm (128 ^ i)];omega
    (have hr:∀x∈r,x<256:=fun x h=>hx x (by simp[h]));obtain⟨m,e1,e2,e3⟩:=num_back r (i+1) (n+(c-128)*128 ^ i) hn' hr h;have hm:=e3 (by omega);refine⟨m*128+(c-128),?_,?_,fun _=>by omega⟩
    · rw[e1,Nat.pow_succ,Nat.mul_comm (128 ^ i) 128,←Nat.mul_assoc,Nat.add_assoc,←Nat.add_mul,Nat.add_comm (c-128)]
    · generalize num r (i+1) (n+(c-128)*128 ^ i)=z at *
      have hz:i+1<z.2.1:=by
       rcases Nat.lt_or_ge (i+1) z.2.1 with h|h
       · exact h
       · rw[show z.2.1-(i+1)=0 by omega,List.take_zero]at e2
         have:=congrArg List.length e2;(have h3:0<(uw m).length:=by unfold uw;split<;>simp);simp only[List.length_nil]at this;omega
      rw[show z.2.1-i=(z.2.1-(i+1))+1 by omega,List.take_succ_cons,e2,uw_ge (n:=m*128+(c-128)) (by omega)];rw[show(m*128+(c-128))%128+128=c by omega,show(m*128+(c-128))/128=m by omega]
theorem num_again{xs:List Nat}(hx:∀x∈xs,x<256)(h:(num xs 0 0).2.2=0):uw (num xs 0 0).1=xs.take (num xs 0 0).2.1:=by
 obtain⟨m,e1,e2,_⟩:=num_back xs 0 0 (by decide) hx h;rw[e1];simpa using e2.symm
end Go.Proofs.YthecngkdmnadoaaGreat

namespace Go.Proofs.YthecngkdmnadoaaGreat
open Go.RowKit
set_option maxRecDepth 100000
theorem row_one(w:World)(z:Int)(n:Nat)(hz:z=n):Row (w.heap.size+1) (w.alloc (Obj.cells #[.int .u8 z] 5)) (.slice (some ⟨w.heap.size,0,none⟩) 1 1) [n]:=by
 subst hz;exact⟨_,_,rfl,by simp,fun h=>by(cases h),fun _=>⟨_,_,rfl,by omega,fun i hi=>by
  obtain rfl:i=0:=by simpa using hi
  simp⟩⟩
theorem Bytes.alloc{B:Nat}{w:World}{v:Value}{xs:List Nat}(h:Bytes B w v xs)(o:Obj):Bytes B (w.alloc o) v xs:=h.below ((Below.refl _ _).alloc (Nat.le_refl _) o)
set_option maxHeartbeats 2000000 in
theorem PutUint_any(B:Nat)(v:Value)(xs:List Nat)(n:Nat)(w:World)(hown:Bytes B w v xs)(hB:B≤w.heap.size)(hn:n<18446744073709551616)(hl:xs.length+10≤140737488355328):
 Calls Tryz.prog 74 #[v,.int .u64 (n:Int)] w fun e w'=>∃v',e = .returned v'∧Bytes B w' v' (xs++uw n)∧Below B w w':=by
 have hul:=uw_len10 hn;go_enter Tryz.func74,Tryz.ntmps74;go_wp2
 go_loopw [0,1] (fun vb vn wr=>∃(k:Nat) (ys:List Nat),vn = .int .u64 (k:Int)∧k<18446744073709551616∧Bytes B wr vb ys∧ys++uw k=xs++uw n∧Below B w wr)
  (fun _ vn _=>(intOf vn).toNat)
 case atStart=>exact⟨n,xs,rfl,hn,hown,rfl,Below.refl _ _⟩
 case round=>
  obtain⟨k,ys,rfl,hk,hown1,heq,hbel⟩:=hrel;have hlen:ys.length+(uw k).length=xs.length+(uw n).length:=by rw[←List.length_append,heq,List.length_append]
  have hkl:=(uw_len10 hk).1;have HE:Hid (ys++uw k=xs++uw n):=heq;have hsz:=hbel.size;clear heq;by_cases h:128≤k
  · have HU:Hid (uw k=(k%128+128)::uw (k/128)):=uw_ge h
    go_wp2_with (at_builtin;refine append_row (by rfl) _ _ rfl B (wr.heap.size+1) _ _ ys [k%128+128] rfl (hown1.alloc _) rfl (row_one _ _ _ (by omega)) (by simp;omega) (by simp;omega) ?_);intro v1 w1 hown2 hb2 _;have hb3:Below B w w1:=(hbel.alloc (by omega) _).trans hb2;go_wp2
    go_roundw
    case rel=>
     refine⟨k/128,ys++[k%128+128],by go_num,by omega,hown2,?_,hb3⟩;rw[←HE.out,HU.out];simp
    case measure=>simp[intOf];omega
  · have HU:Hid (uw k=[k]):=uw_lt (by omega)
    go_wp2_with (at_builtin;refine append_row (by rfl) _ _ rfl B (wr.heap.size+1) _ _ ys [k] rfl (hown1.alloc _) rfl (row_one _ _ _ (by omega)) (by simp;omega) (by simp;omega) ?_);intro v1 w1 hown2 hb2 _;have hb3:Below B w w1:=(hbel.alloc (by omega) _).trans hb2;go_wp2;go_ret;refine⟨_,rfl,?_,hb3⟩;rw[←HE.out,HU.out];exact hown2
theorem bytes_one(B:Nat)(w:World)(z:Int)(n:Nat)(hz:z=n)(hB:B≤w.heap.size):Bytes B (w.alloc (Obj.cells #[.int .u8 z] 5)) (.slice (some ⟨w.heap.size,0,none⟩) 1 1) [n]:=by
 subst hz;exact World.ownsRow_lit w #[bv n] 1 hB (by decide) rfl
set_option maxHeartbeats 2000000 in
theorem PutBytes_any(B N:Nat)(v v2:Value)(xs ys:List Nat)(w:World)(hown:Bytes B w v xs)(hB:B≤w.heap.size)(hrow:Row N w v2 ys)(hN:N≤w.heap.size)(hl:xs.length+ys.length+10≤140737488355328):
 Calls Tryz.prog 57 #[v,v2] w fun e w'=>∃v',e = .returned v'∧Bytes B w' v' (xs++(uw ys.length++ys))∧Below B w w':=by
 have hul:=uw_len10 (show ys.length<18446744073709551616 by omega);have HR:Hid (Row N w v2 ys):=hrow;obtain⟨ao,cap,rfl,hcap⟩:=hrow.shape;clear hrow;go_enter Tryz.func57,Tryz.ntmps57;go_wp2_with fail;refine(PutUint_any w.heap.size _ [] ys.length w (Bytes.nil _ _) (Nat.le_refl _) (by omega) (by simp)).mono ?_;rintro e w1 ⟨v1,rfl,hown1,hb1⟩;have hs1:=hb1.size;go_wp2_with (at_builtin;refine append_row (by rfl) _ _ rfl w.heap.size N _ _ (uw ys.length) ys rfl hown1 rfl (HR.out.below (hb1.mono hN)) (by omega) (by omega) ?_);intro v3 w3 hown3 hb3 _;have hb13:=hb1.trans hb3;have hs3:=hb13.size;have ho:Bytes B w3 v xs:=hown.below hb13;clear hown1 hb1 hb3;go_wp2_with (at_builtin;refine append_row (by rfl) _ _ rfl B w3.heap.size _ _ xs (uw ys.length++ys) rfl ho rfl hown3.row (by simp;omega) (by omega) ?_);intro v4 w4 hown4 hb4 _;go_wp2_with fail;go_ret;exact⟨_,rfl,hown4,(hb13.mono hB).trans hb4⟩
end Go.Proofs.YthecngkdmnadoaaGreat
