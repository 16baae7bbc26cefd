/- Texts that were written apart, joined. -/
import Derived.Test.YthecngkdmnadoaaGreatG50
namespace Go.Proofs.YthecngkdmnadoaaGreat
open Go.RowKit
set_option maxRecDepth 100000
theorem sorted_leI(xs:List Int):(SrtI.sorted xs).Pairwise (·≤·):=sorted_le xs
theorem mem_sortedI(xs:List Int)(x:Int):x∈SrtI.sorted xs↔x∈xs:=mem_sorted xs x
theorem strict_sortedI{xs:List Int}(h:xs.Nodup):(SrtI.sorted xs).Pairwise (·<·):=strict_sortedU h
def IntsAt(w:World)(v:Value)(ps:List Int):Prop:=
 ∃ad cap,v = .slice ad ps.length cap∧ps.length≤cap∧ps.length≤9223372036854775807∧(0<ps.length→∃b off,ad=some ⟨b,off,none⟩∧b<w.heap.size∧∀(j:Nat) x,ps[j]?=some x→w.cell? ⟨b,off+j,none⟩=some (.int .i64 x))∧∀x∈ps,-9223372036854775808≤x∧x≤9223372036854775807
theorem IntsAt.below{w w':World}{v:Value}{ps:List Int}(h:IntsAt w v ps)(hb:Below w.heap.size w w'):IntsAt w' v ps:=by
 obtain⟨ad,cap,rfl,h1,h2,hc,h3⟩:=h;refine⟨ad,cap,rfl,h1,h2,fun h0=>?_,h3⟩;obtain⟨b,off,rfl,hl,hx⟩:=hc h0;exact⟨b,off,rfl,Nat.lt_of_lt_of_le hl hb.size,fun j x hj=>(hb.cell (p:=⟨b,off+j,none⟩) hl).trans (hx j x hj)⟩
theorem IntsAt.tail{w:World}{b off cap:Nat}{x:Int}{r:List Int}(h:IntsAt w (.slice (some ⟨b,off,none⟩) (x::r).length cap) (x::r)):IntsAt w (.slice (if cap=1 then some ⟨b,off,none⟩else some ⟨b,off+1,none⟩) r.length (cap-1)) r:=by
 obtain⟨ad,cap',e,h1,h2,hc,h3⟩:=h;simp only[Value.slice.injEq]at e;obtain⟨rfl,_,rfl⟩:=e;simp only[List.length_cons]at h1 h2 hc;refine⟨_,_,rfl,by omega,by omega,fun h0=>?_,fun y hy=>h3 y (.tail _ hy)⟩;rw[if_neg (by omega)];obtain⟨b',off',e,hl,hx⟩:=hc (by omega);simp only[Option.some.injEq,Addr.mk.injEq,and_true]at e;obtain⟨rfl,rfl⟩:=e;exact⟨b,off+1,rfl,hl,fun j y hj=>by
  have:=hx (j+1) y (by simpa using hj);rw[←Nat.add_assoc]at this;rw[Nat.add_assoc,Nat.add_comm 1 j,←Nat.add_assoc];exact this⟩
abbrev ML:=List (Int×Nat×List (Int×List Nat))
structure CrashR(w:World)(q mb fbq:Nat)(room:Int)(wr:World)(M:ML)(f:Int→Int→Option (List Nat)):Prop where
 two:Two verV wr mb M
 ne:∀p∈M,p.2.2≠[]∧∀s∈p.2.2,s.2.length=64
 get:∀a n,twoGet M a n=f a n
 newm:w.heap.size≤mb
 new:∀p∈M,w.heap.size≤p.2.1∧p.2.1≠q∧p.2.1≠fbq
 qb:wr.heap[q]?=some (dC room 0 0 false false 0 mb fbq)
 fb:MapAt .u64 inV wr fbq ([]:List (Int×Nat×List (Int×FS)))
 ap:q≠mb∧fbq≠mb∧q≠fbq
 qge:w.heap.size≤q∧w.heap.size≤fbq
 below:Below w.heap.size w wr
theorem CrashR.then{w:World}{q mb fbq:Nat}{room:Int}{wr wr':World}{M:ML}{f:Int→Int→Option (List Nat)}(h:CrashR w q mb fbq room wr M f)(hb:Below wr.heap.size wr wr'):CrashR w q mb fbq room wr' M f:=
 ⟨⟨h.two.1.same (hb.block _ h.two.1.lt),fun p hp=>(h.two.2.1 p hp).same (hb.block _ (h.two.2.1 p hp).lt),h.two.2.2⟩,h.ne,h.get,h.newm,h.new,(hb.block q (Array.getElem?_eq_some_iff.1 h.qb).1).trans h.qb,h.fb.same (hb.block _ h.fb.lt),h.ap,h.qge,h.below.trans (hb.mono h.below.size)⟩
theorem CrashR.ext{w:World}{q mb fbq:Nat}{room:Int}{wr:World}{M:ML}{f g:Int→Int→Option (List Nat)}(h:CrashR w q mb fbq room wr M f)(e:∀a n,f a n=g a n):CrashR w q mb fbq room wr M g:=
 { h with get:=fun a n=>(h.get a n).trans (e a n) }
theorem CrashR.put{w:World}{q mb fbq:Nat}{room:Int}{wr wr':World}{M:ML}{f g:Int→Int→Option (List Nat)}{a n:Int}{v:List Nat}(h:CrashR w q mb fbq room wr M f)(hv:v.length=64)(hp:PutPost verV a n v mb M wr wr')(e:∀a' n',g a' n'=if a'=a∧n'=n then some v else f a' n'):
 ∃M',CrashR w q mb fbq room wr' M' g∧(∀p∈M',(∃p0∈M,p0.2.1=p.2.1)∨wr.heap.size≤p.2.1)∧(∀k,k<wr.heap.size→k≠mb→(∀p∈M,p.2.1≠k)→wr'.heap[k]?=wr.heap[k]?)∧wr.heap.size≤wr'.heap.size:=by
 obtain⟨nb,ht,hnb,hnb',ho1,ho2,ho3,hs,hfar⟩:=hp;have hwr:=h.below.size;have hql:=(Array.getElem?_eq_some_iff.1 h.qb).1;have hfl:=h.fb.lt;have hin:∀x,mget a M=some x→(a,x)∈M:=fun x hx=>mem_keys_of_mget hx
 refine⟨putM a n v nb M,⟨ht,fun p hp=>?_,fun a' n'=>?_,h.newm,fun p hp=>?_,?_,?_,h.ap,h.qge,?_⟩,fun p hp=>?_,fun k hk h1 h2=>hfar k hk h1 fun x hx e2=>h2 _ (hin x hx) e2.symm,hs⟩
 · unfold putM at hp
   rcases mem_mput_ne h.two.1.nodup hp with e1|⟨hp,_⟩
   · subst e1
     cases hm:mget a M with
     |none=>exact⟨by simp,fun s hs=>by simp at hs;rw[hs];exact hv⟩
     |some x=>
      obtain⟨h1,h2⟩:=h.ne _ (hin x hm);refine⟨fun e2=>?_,fun s hs=>?_⟩
      · have:=(mput_perm n v x.2).length_eq
        simp only at e2;rw[e2]at this;simp at this
      · rcases mem_mput_ne (h.two.2.1 _ (hin x hm)).nodup hs with e3|⟨hs,_⟩
        · rw[e3];exact hv
        · exact h2 s hs
   · exact h.ne p hp
 · rw[twoGet_put,e,h.get]
 · unfold putM at hp
   rcases mem_mput_ne h.two.1.nodup hp with e1|⟨hp,_⟩
   · subst e1
     cases hm:mget a M with
     |none=>
      have:=hnb hm;exact⟨by show w.heap.size≤nb;omega,by show nb≠q;omega,by show nb≠fbq;omega⟩
     |some x=>
      have:=h.new _ (hin x hm);simpa only using this
   · exact h.new p hp
 · rw[hfar q hql h.ap.1 fun x hx e2=>(h.new _ (hin x hx)).2.1 e2.symm]
   exact h.qb
 · exact h.fb.same (hfar fbq hfl h.ap.2.1 fun x hx e2=>(h.new _ (hin x hx)).2.2 e2.symm)
 · refine⟨ho1.trans h.below.os,ho2.trans h.below.tape,ho3.trans h.below.output,by omega,fun b hb=>?_⟩
   rw[hfar b (by omega) (by have:=h.newm;omega) fun x hx e2=>by have:=(h.new _ (hin x hx)).1;simp only at this;omega];exact h.below.block b hb
 · unfold putM at hp
   rcases mem_mput_ne h.two.1.nodup hp with e1|⟨hp,_⟩
   · subst e1
     cases hm:mget a M with
     |none=>exact .inr (hnb hm)
     |some x=>exact .inl ⟨_,hin x hm,rfl⟩
   · exact .inl ⟨p,hp,rfl⟩
def Prot(G:List Nat)(w4 wr:World)(mb:Nat)(M:ML):Prop:=w4.heap.size≤wr.heap.size∧∀g∈G,g<w4.heap.size∧wr.heap[g]?=w4.heap[g]?∧g≠mb∧∀p∈M,p.2.1≠g
theorem Prot.then{G:List Nat}{w4 wr wr':World}{mb:Nat}{M:ML}(h:Prot G w4 wr mb M)(hb:Below wr.heap.size wr wr'):Prot G w4 wr' mb M:=
 ⟨Nat.le_trans h.1 hb.size,fun g hg=>⟨(h.2 g hg).1,(hb.block g (Nat.lt_of_lt_of_le (h.2 g hg).1 h.1)).trans (h.2 g hg).2.1,(h.2 g hg).2.2⟩⟩
theorem Prot.put{G:List Nat}{w4 wr wr':World}{mb:Nat}{M M':ML}(h:Prot G w4 wr mb M)(h1:∀p∈M',(∃p0∈M,p0.2.1=p.2.1)∨wr.heap.size≤p.2.1)(h2:∀k,k<wr.heap.size→k≠mb→(∀p∈M,p.2.1≠k)→wr'.heap[k]?=wr.heap[k]?)(h3:wr.heap.size≤wr'.heap.size):Prot G w4 wr' mb M':=by
 refine⟨Nat.le_trans h.1 h3,fun g hg=>?_⟩;obtain⟨g1,g2,g3,g4⟩:=h.2 g hg;refine⟨g1,(h2 g (Nat.lt_of_lt_of_le g1 h.1) g3 g4).trans g2,g3,fun p hp=>?_⟩;rcases h1 p hp with⟨p0,hp0,e⟩|hp
 · rw[←e];exact g4 p0 hp0
 · have:=h.1;omega
def RowAt(q:IntKind)(B:Nat)(w:World)(v:Value)(xs:List Int):Prop:=(v = .slice none 0 0∧xs=[])∨∃g cap,v = .slice (some ⟨g,0,none⟩) xs.length cap∧B≤g∧g<w.heap.size∧∀(j:Nat) x,xs[j]?=some x→w.cell? ⟨g,j,none⟩=some (.int q x)
theorem RowAt.of_own{q:IntKind}{B:Nat}{w:World}{v:Value}{xs:List Int}{t:TypeId}{k:Nat}(h:w.ownsRow B t 1 v k (xs.map (Value.int q))):RowAt q B w v xs:=by
 obtain⟨h1,h2⟩:=h;have hk:xs.length=k:=by simpa using h1
 subst hk;rcases h2 with⟨rfl,h0⟩|⟨g,cap,cur,rfl,hb,hh,h3,h4,h5,h6⟩
 · exact .inl ⟨rfl,List.eq_nil_of_length_eq_zero h0⟩
 · refine .inr ⟨g,cap,rfl,hb,(Array.getElem?_eq_some_iff.1 hh).1,fun j x hj=>?_⟩
   (have e:(xs.map (Value.int q))[j]?=some (.int q x):=by rw[List.getElem?_map,hj];rfl);rw[←h6,Nat.mul_one,List.getElem?_take]at e
   split at e
   · simpa[World.cell?,hh]using e
   · cases e
theorem RowAt.shape{q:IntKind}{B:Nat}{w:World}{v:Value}{xs:List Int}(h:RowAt q B w v xs):∃ad cap,v = .slice ad xs.length cap:=by
 rcases h with⟨rfl,rfl⟩|⟨g,cap,rfl,_⟩
 · exact⟨none,0,rfl⟩
 · exact⟨_,cap,rfl⟩
theorem RowAt.prot{q:IntKind}{B:Nat}{w:World}{v:Value}{xs:List Int}(h:RowAt q B w v xs):∃G:List Nat,(∀g∈G,B≤g∧g<w.heap.size)∧∀(i:Nat) x,xs[i]?=some x→∃g cap,v = .slice (some ⟨g,0,none⟩) xs.length cap∧g∈G∧w.cell? ⟨g,i,none⟩=some (.int q x):=by
 rcases h with⟨rfl,rfl⟩|⟨g,cap,rfl,h1,h2,h3⟩
 · exact⟨[],fun g hg=>(by cases hg),fun i x hx=>by simp at hx⟩
 · exact⟨[g],fun g' hg=>by rw[List.mem_singleton.1 hg];exact⟨h1,h2⟩,fun i x hx=>⟨g,cap,rfl,.head _,h3 i x hx⟩⟩
theorem Prot.start{G:List Nat}{w0 w4:World}{mb:Nat}{M:ML}(ht:Two verV w0 mb M)(hG:∀g∈G,w0.heap.size≤g∧g<w4.heap.size):Prot G w4 w4 mb M:=
 ⟨Nat.le_refl _,fun g hg=>⟨(hG g hg).2,rfl,by have:=ht.1.lt;have:=(hG g hg).1;omega,fun p hp=>by have:=(ht.2.1 p hp).lt;have:=(hG g hg).1;omega⟩⟩
theorem Prot.cell{G:List Nat}{w4 wr:World}{mb:Nat}{M:ML}(h:Prot G w4 wr mb M){g o:Nat}{v:Value}(hg:g∈G)(hc:w4.cell? ⟨g,o,none⟩=some v):wr.cell? ⟨g,o,none⟩=some v:=(World.cell?_of_block (a:=⟨g,o,none⟩) (h.2 g hg).2.1).trans hc
def innerK(sh:Sh)(a:Int):List (Int×Int):=(SrtI.sorted (keys (inF sh a))).map fun n=>(a,n)
def stK(sh:Sh)(ps:List Int)(K:List (Int×Int)):(Int→Int→Option (List Nat))×List Int:=K.foldl (cstep (fget sh)) (lget sh,ps)
theorem stK_snoc(sh:Sh)(ps:List Int)(K:List (Int×Int))(k:Int×Int):stK sh ps (K++[k])=cstep (fget sh) (stK sh ps K) k:=by rw[stK,List.foldl_append];rfl
theorem tmod_nat(p L:Nat):Int.tmod (p:Int) ((L:Int)+1)=((p%(L+1):Nat):Int):=by
 have:((L:Int)+1)=((L+1:Nat):Int):=by omega
 rw[this,Int.tmod_eq_emod_of_nonneg (by omega)];rfl
theorem riseF'{w:World}{sh:Sh}(h:Held w sh)(hl:sh.F.length<1099511627776):
 Calls Tryz.prog 44 #[.map (some sh.fb)] w fun e w'=>∃v,e = .returned v∧RowAt .u64 w.heap.size w' v (SrtU.sorted (keys sh.F))∧Below w.heap.size w w':=by
 refine(IterF.rising_any (f:=inV) (m:=sh.F) (bo:=some sh.fb) w h.hf.nodup hl (fun W hW=>(held_below h hW).hf.range Tryz.underlying71)).mono ?_;rintro e w' ⟨v,rfl,h1,h2,h3⟩;exact⟨v,rfl,RowAt.of_own h1,h3⟩
theorem atA_bo{β:Type}(a:Int)(M:List (Int×Nat×β)):atA a M = .map (boOf a M):=by
 unfold atA boOf;cases mget a M<;>rfl
theorem riseS{w:World}{sh:Sh}(h:Held w sh)(a:Int)(hl:(inF sh a).length<1099511627776):
 Calls Tryz.prog 45 #[atA a sh.F] w fun e w'=>∃v,e = .returned v∧RowAt .i64 w.heap.size w' v (SrtI.sorted (keys (inF sh a)))∧Below w.heap.size w w':=by
 rw[atA_bo];refine(IterS.rising_any (f:=fsV) (m:=inF sh a) (bo:=boOf a sh.F) w (inF_nodup h a) hl (fun W hW=>by have:=range_F (held_below h hW) a;rwa [atA_bo]at this)).mono ?_;rintro e w' ⟨v,rfl,h1,h2,h3⟩;exact⟨v,rfl,RowAt.of_own h1,h3⟩
end Go.Proofs.YthecngkdmnadoaaGreat

namespace Go.Proofs.YthecngkdmnadoaaGreat
open Go.RowKit
set_option maxRecDepth 100000
def pairsOf(M:ML):List (Int×Int):=M.flatMap fun p=>p.2.2.map fun s=>(p.1,s.1)
def sumML(M:ML):Nat:=(M.map fun p=>p.2.2.length).sum
theorem pairs_len:∀M:ML,(pairsOf M).length=sumML M
 |[]=>rfl
 |p::r=>by
  have:=pairs_len r;unfold pairsOf sumML at *;rw[List.flatMap_cons,List.length_append,this];simp
theorem pairs_nodup{M:ML}(h:(keys M).Nodup)(hi:∀p∈M,(keys p.2.2).Nodup):(pairsOf M).Nodup:=by
 unfold pairsOf;rw[List.Nodup,List.pairwise_flatMap];refine⟨fun p hp=>?_,?_⟩
 · have:=hi p hp
   unfold keys at this;rw[List.Nodup,List.pairwise_map]at this;rw[List.pairwise_map];exact this.imp fun {s t} hst e=>hst (by simpa using e)
 · have h':M.Pairwise fun p q=>p.1≠q.1:=by
    unfold keys at h;rw[List.Nodup,List.pairwise_map]at h;exact h
   (refine h'.imp fun {p q} hpq=>?_);intro x hx y hy e;obtain⟨s,_,rfl⟩:=List.mem_map.1 hx;obtain⟨t,_,rfl⟩:=List.mem_map.1 hy;simp only[Prod.mk.injEq]at e;exact hpq e.1
theorem mem_pairs{M:ML}(h:(keys M).Nodup)(hi:∀p∈M,(keys p.2.2).Nodup)(a n:Int):(a,n)∈pairsOf M↔(twoGet M a n).isSome=true:=by
 constructor
 · intro hm
   obtain⟨p,hp,hm⟩:=List.mem_flatMap.1 hm;obtain⟨s,hs,e⟩:=List.mem_map.1 hm;simp only[Prod.mk.injEq]at e;obtain⟨rfl,rfl⟩:=e;unfold twoGet;rw[mget_of_mem h (show(p.1,p.2)∈M from hp),Option.bind_some,mget_of_mem (hi p hp) (show(s.1,s.2)∈p.2.2 from hs)];rfl
 · intro hm
   obtain⟨v,hv⟩:=Option.isSome_iff_exists.1 hm;obtain⟨x,hx,hy⟩:=Option.bind_eq_some_iff.1 hv;exact List.mem_flatMap.2 ⟨_,mem_keys_of_mget hx,List.mem_map.2 ⟨_,mem_keys_of_mget hy,rfl⟩⟩
theorem pairs_sub{M D:ML}(hD:∀p∈D,p∈M):∀x∈pairsOf D,x∈pairsOf M:=fun x hx=>by
 obtain⟨p,hp,hm⟩:=List.mem_flatMap.1 hx;exact List.mem_flatMap.2 ⟨p,hD p hp,hm⟩
theorem len_sub:∀(l l':List (Int×Int)),l.Nodup→(∀x∈l,x∈l')→l.length≤l'.length
 |[],_,_,_=>Nat.zero_le _
 |x::r,l',hn,hs=>by
  obtain⟨h1,h2⟩:=List.nodup_cons.1 hn;have hx:=hs x (.head _);have ih:=len_sub r (l'.erase x) h2 fun y hy=>(List.mem_erase_of_ne (fun e:y=x=>h1 (by rw[←e];exact hy))).2 (hs y (.tail _ hy))
  rw[List.length_erase_of_mem hx]at ih;have:=List.length_pos_of_mem hx;simp only[List.length_cons];omega
theorem crashS_len:∀(ps:List Int) (S:List Sec),(crashS ps S).length≤S.length
 |_,[]=>Nat.le_refl _
 |ps,s::r=>by
  rw[crashS]
  split
  · have:=crashS_len ps r
    simp only[List.length_cons];omega
  · have:=crashS_len ps.tail r
    (have h1:(crashSec (ps.headD 0) s).length≤1:=by unfold crashSec;split<;>simp);rw[List.length_append,List.length_cons];omega
theorem find_some_iff{a n:Int}{S:List Sec}:(findS a n S).isSome=true↔(a,n)∈S.map fun s=>(s.area,s.n):=by
 constructor
 · intro h
   obtain⟨s,hs⟩:=Option.isSome_iff_exists.1 h;obtain⟨e1,e2⟩:=findS_at hs;exact List.mem_map.2 ⟨s,findS_mem hs,by rw[e1,e2]⟩
 · intro h
   obtain⟨s,hs,e⟩:=List.mem_map.1 h;simp only[Prod.mk.injEq]at e;cases hf:findS a n S with
   |some _=>rfl
   |none=>
    exfalso
    induction S with
    |nil=>cases hs
    |cons t r ih=>
     rw[findS]at hf
     split at hf
     · cases hf
     · rename_i hne
       rcases List.mem_cons.1 hs with rfl|hs
       · exact hne e
       · exact ih (List.mem_map.2 ⟨s,hs,by rw[e.1,e.2]⟩) hs hf
theorem sum_crash{M:ML}{S:List Sec}(h:(keys M).Nodup)(hi:∀p∈M,(keys p.2.2).Nodup)(hs:S.Pairwise Sec.before)(hl:∀s∈S,s.last≠none)(hg:∀a n,twoGet M a n=(findS a n S).bind (·.last)):sumML M=S.length:=by
 have key:∀a n,(a,n)∈pairsOf M↔(a,n)∈S.map fun s=>(s.area,s.n):=fun a n=>by
  rw[mem_pairs h hi,hg,←find_some_iff];cases hf:findS a n S with
  |none=>simp
  |some s=>
   have:=hl s (findS_mem hf);cases hll:s.last with
   |none=>exact absurd hll this
   |some v=>simp[hll]
 have hn:(S.map fun s=>(s.area,s.n)).Nodup:=by
  rw[List.Nodup,List.pairwise_map];refine hs.imp fun {s t} hst e=>?_
  simp only[Prod.mk.injEq]at e;unfold Sec.before at hst;omega
 have l1:=len_sub _ _ (pairs_nodup h hi) fun x hx=>(key x.1 x.2).1 hx
 have l2:=len_sub _ _ hn fun x hx=>(key x.1 x.2).2 hx
 rw[pairs_len,List.length_map]at *;omega
theorem sum_done{M D:ML}(h:(keys D).Nodup)(hi:∀p∈M,(keys p.2.2).Nodup)(hD:∀p∈D,p∈M):sumML D≤sumML M:=by
 rw[←pairs_len,←pairs_len];exact len_sub _ _ (pairs_nodup h fun p hp=>hi p (hD p hp)) (pairs_sub hD)
theorem sum_all{M D:ML}(hM:(keys M).Nodup)(h:(keys D).Nodup)(hi:∀p∈M,(keys p.2.2).Nodup)(hD:∀p∈D,p∈M)(hA:∀p∈M,p∈D):sumML D=sumML M:=by
 have h1:=sum_done h hi hD;have h2:=sum_done (M:=D) hM (fun p hp=>hi p (hD p hp)) hA;omega
theorem sum_snoc(D:ML)(k:Int)(b:Nat)(m:List (Int×List Nat)):sumML (D++[(k,b,m)])=sumML D+m.length:=by simp[sumML]
theorem found_disk{N:Nat}{w wr wr':World}{q mb fbq:Nat}{room:Int}{M:ML}{f:Int→Int→Option (List Nat)}{S:List Sec}(h:CrashR w q mb fbq room wr M f)(hs:S.Pairwise Sec.before)(hl:∀s∈S,s.last≠none∧s.fresh=[])(hg:∀a n,f a n=(findS a n S).bind (·.last))
 (hq:wr'.heap[q]?=some (dC room (S.length:Int) 0 false false 0 mb fbq)) (hst:∀k,k<wr.heap.size→k≠q→wr'.heap[k]?=wr.heap[k]?) (r1:0≤room) (r2:room≤9223372036854775807) (n1:S.length≤N) (n2:(S.length:Int)≤room):
 ∃fq,DiskAt N wr' q ⟨room,0,0,false,false,S⟩ fq∧∀b∈fq,w.heap.size≤b:=by
 have hM:MapAt .u64 inV wr' mb M:=h.two.1.same (hst mb h.two.1.lt h.ap.1.symm);have hge:∀b∈q::Sh.blocks ⟨mb,fbq,M,[]⟩,w.heap.size≤b:=fun b hb=>by
  simp only[Sh.blocks,Sh.lblocks,Sh.fblocks,List.flatMap_nil,List.append_nil,List.mem_cons]at hb;rcases hb with rfl|rfl|rfl|hb
  · exact h.qge.1
  · exact h.newm
  · exact h.qge.2
  · obtain⟨p,hp,rfl⟩:=List.mem_map.1 hb
    exact(h.new p hp).1
 refine⟨q::Sh.blocks ⟨mb,fbq,M,[]⟩,⟨⟨mb,fbq,M,[]⟩,hq,⟨hM,h.fb.same (hst fbq h.fb.lt h.ap.2.2.symm),fun p hp=>⟨(h.two.2.1 p hp).same (hst _ (h.two.2.1 p hp).lt (h.new p hp).2.1),(h.ne p hp).2,(h.ne p hp).1⟩,fun p hp=>(by cases hp)⟩,⟨hs,fun a n=>?_,fun a n=>?_,fun s hs' => .inl (hl s hs').1⟩,rfl,?_,r1,r2,Int.le_refl _,?_,n1,n2,fun s hs'=>?_,(show(-9223372036854775808:Int)≤0 by decide),(show(0:Int)≤9223372036854775807 by decide),fun e=>(by cases e)⟩,hge⟩
 · show twoGet M a n=_
   rw[h.get,hg]
 · show[]=_
   cases hf:findS a n S with
   |none=>rfl
   |some s=>simp[(hl s (findS_mem hf)).2]
 · simp only[Sh.blocks,Sh.lblocks,Sh.fblocks,List.flatMap_nil,List.append_nil,List.nodup_cons,List.mem_cons,not_or]
   have hn:=List.nodup_cons.1 h.two.2.2;refine⟨⟨h.ap.1,h.ap.2.2,fun hm=>?_⟩,⟨h.ap.2.1.symm,hn.1⟩,fun hm=>?_,hn.2⟩
   · obtain⟨p,hp,e⟩:=List.mem_map.1 hm
     exact(h.new p hp).2.1 e
   · obtain⟨p,hp,e⟩:=List.mem_map.1 hm
     exact(h.new p hp).2.2 e
 · show(0:Int)≤(N:Int)
   omega
 · rw[(hl s hs').2];simp
end Go.Proofs.YthecngkdmnadoaaGreat
