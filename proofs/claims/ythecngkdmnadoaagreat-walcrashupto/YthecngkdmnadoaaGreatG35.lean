/- Texts that were written apart, joined. -/
import Derived.Test.YthecngkdmnadoaaGreatG34
namespace Go.Proofs.YthecngkdmnadoaaGreat
open Go.RowKit
set_option maxRecDepth 100000
theorem num_cut:∀(m i n j:Nat),j<(uw m).length→(num ((uw m).take j) i n).2.2≠0:=by
 intro m
 induction m using Nat.strongRecOn with
 |_ m ih=>
  intro i n j hj;cases j with
  |zero=>simp[num]
  |succ j=>
   by_cases h:m<128
   · rw[uw_lt h]at hj
     simp at hj
   · rw[uw_ge (by omega)]at hj ⊢
     simp only[List.length_cons]at hj;rw[List.take_succ_cons,num]
     split
     · decide
     · split
       · decide
       · split
         · omega
         · exact ih (m/128) (by omega) (i+1) _ j (by omega)
theorem front_uw{m most:Nat}(hm:m<18446744073709551616)(hmost:m≤most)(r:List Nat):front (uw m++r) most=(m,(uw m).length,0):=by
 unfold front;rw[num_write hm];rw[if_neg (by simp;omega)]
theorem front_cut{m most j:Nat}(hj:j<(uw m).length):(front ((uw m).take j) most).2.2≠0:=by
 unfold front
 split
 · decide
 · exact num_cut m 0 0 j hj
def recW(x:List Nat):List Nat:=uw x.length++x
def recsW(l:List (List Nat)):List Nat:=l.flatMap recW
theorem recsW_cons(x:List Nat)(l:List (List Nat)):recsW (x::l)=recW x++recsW l:=rfl
theorem recsW_append(a b:List (List Nat)):recsW (a++b)=recsW a++recsW b:=List.flatMap_append ..
def parse:Nat→List Nat→List (List Nat)
 |0,_=>[]
 |f+1,xs=>if (bytesR xs 0 512).2.2=0 then (bytesR xs 0 512).1::parse f (bytesR xs 0 512).2.1 else []
theorem bytes_rec{x r:List Nat}(hx:x.length≤512):bytesR (recW x++r) 0 512=(x,r,0):=by
 unfold bytesR recW;have hf:front (uw x.length++x++r) (mostN 512)=(x.length,(uw x.length).length,0):=by
  rw[List.append_assoc];exact front_uw (by omega) (by show _≤(max 512 0:Int).toNat;omega) _
 rw[hf,if_neg (by decide),if_neg (by simp)];rw[if_neg (by simp only[List.length_append];omega)];refine Prod.ext ?_ (Prod.ext ?_ rfl)
 · show((uw x.length++x++r).drop (uw x.length).length).take x.length=x
   rw[List.append_assoc,List.drop_left,List.take_left]
 · show(uw x.length++x++r).drop ((uw x.length).length+x.length)=r
   rw[←List.length_append,List.drop_left]
theorem bytes_cut{x:List Nat}{j:Nat}(hx:x.length≤512)(hj:j<(recW x).length):¬(bytesR ((recW x).take j) 0 512).2.2=0:=by
 unfold recW at *;unfold bytesR;rw[if_neg (by decide)];by_cases h1:j<(uw x.length).length
 · have e:(uw x.length++x).take j=(uw x.length).take j:=by rw[List.take_append_of_le_length (by omega)]
   have:=front_cut (most:=mostN 512) h1;rw[e,if_pos this];show ¬((front ((uw x.length).take j) (mostN 512)).2.2:Int)=0;omega
 · have e:(uw x.length++x).take j=uw x.length++x.take (j-(uw x.length).length):=by rw[List.take_append,List.take_of_length_le (by omega)]
   rw[List.length_append]at hj;have hf:front (uw x.length++x.take (j-(uw x.length).length)) (mostN 512)=(x.length,(uw x.length).length,0):=front_uw (by omega) (by show _≤(max 512 0:Int).toNat;omega) _;rw[e,hf,if_neg (by simp),if_pos (by simp only[List.length_append,List.length_take];omega)];simp
theorem parse_nil(f:Nat):parse f []=[]:=by
 cases f with
 |zero=>rfl
 |succ f=>rfl
theorem parse_rec{f:Nat}{x r:List Nat}(hx:x.length≤512):parse (f+1) (recW x++r)=x::parse f r:=by
 rw[parse,bytes_rec hx,if_pos rfl]
theorem recW_pos(x:List Nat):0<(recW x).length:=by
 unfold recW;have:=uw_len (x.length+1) x.length (Nat.lt_of_lt_of_le (Nat.lt_succ_self _) (Nat.le_of_lt (Nat.lt_pow_self (by decide)))) (by omega);rw[List.length_append];omega
theorem parse_take:∀(l:List (List Nat)) (f j:Nat),(∀x∈l,x.length≤512)→j≤(recsW l).length→j<f→∃k,k≤l.length∧parse f ((recsW l).take j)=l.take k∧(recsW (l.take k)).length≤j∧∀k',k'≤l.length→(recsW (l.take k')).length≤j→k'≤k
 |[],f,j,_,hj,_=>⟨0,Nat.le_refl _,by rw[show recsW []=[]from rfl,List.take_nil,parse_nil];rfl,Nat.zero_le _,fun k' h _=>h⟩
 |x::l,0,j,_,_,hf=>absurd hf (Nat.not_lt_zero _)
 |x::l,f+1,j,hx,hj,hf=>by
  have hx1:=hx x (List.mem_cons_self ..);have hp:=recW_pos x;rw[recsW_cons]at hj ⊢;rw[List.length_append]at hj;by_cases h:j<(recW x).length
  · refine⟨0,Nat.zero_le _,?_,Nat.zero_le _,fun k' hk hl=>?_⟩
    · rw[List.take_append_of_le_length (by omega),parse,if_neg (bytes_cut hx1 h)]
      rfl
    · cases k' with
      |zero=>exact Nat.le_refl _
      |succ k'=>
       rw[List.take_succ_cons,recsW_cons,List.length_append]at hl;omega
  · obtain⟨k,h1,h2,h3,h4⟩:=parse_take l f (j-(recW x).length) (fun y hy=>hx y (List.mem_cons_of_mem _ hy)) (by omega) (by omega)
    refine⟨k+1,by simp only[List.length_cons];omega,?_,?_,fun k' hk hl=>?_⟩
    · rw[List.take_append,List.take_of_length_le (by omega),parse_rec hx1,h2,List.take_succ_cons]
    · rw[List.take_succ_cons,recsW_cons,List.length_append]
      omega
    · cases k' with
      |zero=>exact Nat.zero_le _
      |succ k'=>
       rw[List.take_succ_cons,recsW_cons,List.length_append]at hl;simp only[List.length_cons]at hk;have:=h4 k' (by omega) (by omega);omega
theorem parse_all(l:List (List Nat))(f:Nat)(hl:∀x∈l,x.length≤512)(hf:(recsW l).length<f):parse f (recsW l)=l:=by
 obtain⟨k,h1,h2,h3,h4⟩:=parse_take l f (recsW l).length hl (Nat.le_refl _) hf;have:=h4 l.length (Nat.le_refl _) (by rw[List.take_length];exact Nat.le_refl _);rw[List.take_length]at h2;rw[h2,List.take_of_length_le (by omega)]
theorem parse_len:∀(f:Nat) (xs:List Nat),(∀x∈xs,x<256)→(parse f xs).length≤xs.length
 |0,_,_=>Nat.zero_le _
 |f+1,xs,hx=>by
  rw[parse]
  split
  · rename_i h
    have h1:=bytesR_less hx h
    have h2:∀y∈(bytesR xs 0 512).2.1,y<256:=fun y hy=>hx y (by
     unfold bytesR at hy
     split at hy
     · exact hy
     · split at hy
       · exact hy
       · split at hy
         · exact hy
         · exact List.mem_of_mem_drop hy)
    have:=parse_len f _ h2;simp only[List.length_cons];omega
  · exact Nat.zero_le _
theorem recsR_parse:∀(f:Nat) (g:LG) (xs:List Nat),g.first+g.L.length+(parse f xs).length<4611686018427387904→recsR f g xs=(0,{ g with L:=g.L++parse f xs })
 |0,g,xs,_=>by rw[recsR,parse,List.append_nil]
 |f+1,g,xs,h=>by
  rw[parse]at h ⊢;by_cases h1:(bytesR xs 0 512).2.2=0
  · rw[if_pos h1]at h ⊢
    simp only[List.length_cons]at h;rw[recsR_go h1 (by omega),recsR_parse f _ _ (by simp only[List.length_append,List.length_singleton];omega)];simp only[List.append_assoc,List.singleton_append]
  · rw[if_neg h1,List.append_nil,recsR_end h1]
theorem ask_uw{ix:Nat}(h:ix≤4611686018427387904)(r:List Nat):askR (uw ix++r)=(ix,r,0):=by
 unfold askR uintR;rw[if_neg (by decide),front_uw (by omega) h,if_neg (by simp)];simp
theorem ask_nil:¬(askR []).2.2=0:=by decide
end Go.Proofs.YthecngkdmnadoaaGreat

namespace Go.Proofs.YthecngkdmnadoaaGreat
open Go.RowKit
set_option maxRecDepth 100000
abbrev SR:=Nat×List (List Nat)
def nxt(st:Option SR)(s:SR):SR:=match st with
 |none=>s
 |some A=>if s.1<A.1 then s else (A.1,A.2.take (s.1-A.1)++s.2)
def okN(st:Option SR)(s:SR):Prop:=match st with
 |none=>True
 |some A=>s.1≤A.1+A.2.length
def fo:Option SR→List SR→Option SR
 |st,[]=>st
 |st,s::r=>fo (some (nxt st s)) r
def ch:Option SR→List SR→Prop
 |_,[]=>True
 |st,s::r=>okN st s∧ch (some (nxt st s)) r
theorem fo_append:∀(a b:List SR) (st:Option SR),fo st (a++b)=fo (fo st a) b
 |[],_,_=>rfl
 |s::r,b,st=>by rw[List.cons_append,fo,fo,fo_append r b]
theorem ch_append:∀(a b:List SR) (st:Option SR),ch st (a++b)↔ch st a∧ch (fo st a) b
 |[],b,st=>⟨fun h=>⟨trivial,h⟩,fun h=>h.2⟩
 |s::r,b,st=>by
  rw[List.cons_append,ch,ch,fo,ch_append r b];exact and_assoc.symm
theorem fo_some:∀(l:List SR) (A:SR),∃B,fo (some A) l=some B
 |[],A=>⟨A,rfl⟩
 |_::r,_=>fo_some r _
theorem fo_cons(s:SR)(l:List SR)(st:Option SR):∃B,fo st (s::l)=some B:=fo_some l _
theorem nxt_first(st:Option SR)(s:SR):(nxt st s).1≤s.1:=by
 unfold nxt;cases st with
 |none=>exact Nat.le_refl _
 |some A=>
  show(if s.1<A.1 then s else (A.1,A.2.take (s.1-A.1)++s.2)).1≤s.1
  split
  · exact Nat.le_refl _
  · show A.1≤s.1;omega
theorem nxt_le(A s:SR):(nxt (some A) s).1≤A.1:=by
 show(if s.1<A.1 then s else (A.1,A.2.take (s.1-A.1)++s.2)).1≤A.1
 split
 · omega
 · exact Nat.le_refl _
theorem fo_le:∀(l:List SR) (A B:SR),fo (some A) l=some B→B.1≤A.1∧∀s∈l,B.1≤s.1
 |[],A,B,h=>by
  rw[fo,Option.some.injEq]at h;subst h;exact⟨Nat.le_refl _,fun s hs=>by cases hs⟩
 |s::r,A,B,h=>by
  rw[fo]at h;obtain⟨h1,h2⟩:=fo_le r _ _ h;have h3:=nxt_le A s;have h4:=nxt_first (some A) s;refine⟨by omega,fun t ht=>?_⟩;rcases List.mem_cons.1 ht with rfl|h5
  · omega
  · exact h2 t h5
def hiF(ix:Nat)(st:Option SR):Prop:=match st with
 |none=>True
 |some A=>ix≤A.1
def Agr(ix:Nat)(A K:Option SR):Prop:=(hiF ix A∧hiF ix K)∨∃f L M,A=some (f,L)∧K=some (f,M)∧f<ix∧L.take (ix-f)=M.take (ix-f)
theorem Agr.refl(ix:Nat)(A:Option SR):Agr ix A A:=by
 cases A with
 |none=>exact .inl ⟨trivial,trivial⟩
 |some A=>
  by_cases h:ix≤A.1
  · exact .inl ⟨h,h⟩
  · exact .inr ⟨A.1,A.2,A.2,rfl,rfl,by omega,rfl⟩
theorem hi_low{ix:Nat}{A:Option SR}{s:SR}(h:hiF ix A)(hs:s.1<ix):nxt A s=s∧okN A s:=by
 cases A with
 |none=>exact⟨rfl,trivial⟩
 |some A=>
  have h':ix≤A.1:=h;exact⟨by unfold nxt;exact if_pos (by omega),by show s.1≤A.1+A.2.length;omega⟩
theorem hi_high{ix:Nat}{A:Option SR}{s:SR}(h:hiF ix A)(hs:ix≤s.1):hiF ix (some (nxt A s)):=by
 cases A with
 |none=>exact hs
 |some A=>
  have h':ix≤A.1:=h;show ix≤(if s.1<A.1 then s else (A.1,A.2.take (s.1-A.1)++s.2)).1
  split
  · exact hs
  · exact h'
theorem take_agree{L M:List (List Nat)}{a b:Nat}(h:L.take a=M.take a)(hb:b≤a):L.take b=M.take b:=by
 have:(L.take a).take b=(M.take a).take b:=by rw[h]
 rwa [List.take_take,List.take_take,Nat.min_eq_left hb]at this
theorem Agr.low{ix:Nat}{A K:Option SR}{s:SR}(h:Agr ix A K)(hs:s.1<ix)(ho:okN A s):okN K s∧Agr ix (some (nxt A s)) (some (nxt K s)):=by
 rcases h with⟨h1,h2⟩|⟨f,L,M,rfl,rfl,hf,ht⟩
 · rw[(hi_low h1 hs).1,(hi_low h2 hs).1]
   exact⟨(hi_low h2 hs).2,Agr.refl _ _⟩
 · have ho':s.1≤f+L.length:=ho
   have hl:=congrArg List.length ht;rw[List.length_take,List.length_take]at hl;refine⟨by show s.1≤f+M.length;omega,?_⟩;show Agr ix (some (if s.1<f then s else (f,L.take (s.1-f)++s.2))) (some (if s.1<f then s else (f,M.take (s.1-f)++s.2)));rw[take_agree ht (by omega:s.1-f≤ix-f)];exact Agr.refl _ _
theorem Agr.high{ix:Nat}{A K:Option SR}{s:SR}(h:Agr ix A K)(hs:ix≤s.1)(ho:okN A s):Agr ix (some (nxt A s)) K:=by
 rcases h with⟨h1,h2⟩|⟨f,L,M,rfl,rfl,hf,ht⟩
 · exact .inl ⟨hi_high h1 hs,h2⟩
 · have ho':s.1≤f+L.length:=ho
   refine .inr ⟨f,L.take (s.1-f)++s.2,M,?_,rfl,hf,?_⟩
   · show some (if s.1<f then s else (f,L.take (s.1-f)++s.2))=_
     rw[if_neg (by omega)]
   · rw[List.take_append_of_le_length (by rw[List.length_take];omega),List.take_take,Nat.min_eq_left (by omega),ht]
theorem cut_agr(ix:Nat):∀(q:List SR) (A K:Option SR),Agr ix A K→ch A q→ch K (q.filter fun s=>decide (s.1<ix))∧Agr ix (fo A q) (fo K (q.filter fun s=>decide (s.1<ix)))
 |[],A,K,h,_=>⟨trivial,h⟩
 |s::r,A,K,h,hc=>by
  obtain⟨h1,h2⟩:=hc;by_cases hs:s.1<ix
  · rw[List.filter_cons_of_pos (by simpa using hs)]
    obtain⟨h3,h4⟩:=h.low hs h1;obtain⟨h5,h6⟩:=cut_agr ix r _ _ h4 h2;exact⟨⟨h3,h5⟩,h6⟩
  · rw[List.filter_cons_of_neg (by simpa using hs)]
    exact cut_agr ix r _ _ (h.high (by omega) h1) h2
theorem Agr.new{ix:Nat}{A:SR}{K:Option SR}(h:Agr ix (some A) K)(r:List (List Nat))(h1:A.1≤ix)(h2:ix≤A.1+A.2.length):okN K (ix,r)∧nxt K (ix,r)=(A.1,A.2.take (ix-A.1)++r):=by
 rcases h with⟨h3,h4⟩|⟨f,L,M,e,rfl,hf,ht⟩
 · have h3':ix≤A.1:=h3
   (have e:A.1=ix:=by omega);rw[e,Nat.sub_self,List.take_zero,List.nil_append];cases K with
   |none=>exact⟨trivial,rfl⟩
   |some K=>
    have h4':ix≤K.1:=h4;refine⟨by show ix≤K.1+K.2.length;omega,?_⟩;show(if ix<K.1 then (ix,r)else (K.1,K.2.take (ix-K.1)++r))=(ix,r)
    split
    · rfl
    · rw[show K.1=ix by omega,Nat.sub_self,List.take_zero,List.nil_append]
 · simp only[Option.some.injEq]at e
   subst e;have hl:=congrArg List.length ht;rw[List.length_take,List.length_take]at hl;have h2':ix≤f+L.length:=h2;refine⟨by show ix≤f+M.length;omega,?_⟩;show(if ix<f then (ix,r)else (f,M.take (ix-f)++r))=(f,L.take (ix-f)++r);rw[if_neg (by omega),ht]
structure Suf(A K:SR):Prop where
 le:A.1≤K.1
 ends : A.1 + A.2.length = K.1 + K.2.length
 drop:A.2.drop (K.1-A.1)=K.2
theorem Suf.refl(A:SR):Suf A A:=⟨Nat.le_refl _,rfl,by rw[Nat.sub_self,List.drop_zero]⟩
theorem Suf.start(st:Option SR)(s:SR)(ho:okN st s):Suf (nxt st s) s:=by
 cases st with
 |none=>exact Suf.refl _
 |some A=>
  have ho':s.1≤A.1+A.2.length:=ho;show Suf (if s.1<A.1 then s else (A.1,A.2.take (s.1-A.1)++s.2)) s
  split
  · exact Suf.refl _
  · have hl:(A.2.take (s.1-A.1)).length=s.1-A.1:=by rw[List.length_take];omega
    refine⟨by show A.1≤s.1;omega,by show A.1+(A.2.take (s.1-A.1)++s.2).length=_;rw[List.length_append,hl];omega,?_⟩;show(A.2.take (s.1-A.1)++s.2).drop (s.1-A.1)=s.2;have:=List.drop_left (l₁:=A.2.take (s.1-A.1)) (l₂:=s.2)
    rwa [hl]at this
theorem Suf.step{A K s:SR}(h:Suf A K)(ho:okN (some A) s):okN (some K) s∧Suf (nxt (some A) s) (nxt (some K) s):=by
 have ho':s.1≤A.1+A.2.length:=ho;have h1:=h.le;have h2:=h.ends;refine⟨by show s.1≤K.1+K.2.length;omega,?_⟩;show Suf (if s.1<A.1 then s else (A.1,A.2.take (s.1-A.1)++s.2)) (if s.1<K.1 then s else (K.1,K.2.take (s.1-K.1)++s.2));by_cases c1:s.1<A.1
 · rw[if_pos c1,if_pos (by omega)]
   exact Suf.refl _
 · rw[if_neg c1]
   (have hl:(A.2.take (s.1-A.1)).length=s.1-A.1:=by rw[List.length_take];omega);by_cases c2:s.1<K.1
   · rw[if_pos c2]
     refine⟨by show A.1≤s.1;omega,by show A.1+(A.2.take (s.1-A.1)++s.2).length=_;rw[List.length_append,hl];omega,?_⟩;show(A.2.take (s.1-A.1)++s.2).drop (s.1-A.1)=s.2;have:=List.drop_left (l₁:=A.2.take (s.1-A.1)) (l₂:=s.2)
     rwa [hl]at this
   · rw[if_neg c2]
     (have hl2:(K.2.take (s.1-K.1)).length=s.1-K.1:=by rw[List.length_take];omega);refine⟨h1,?_,?_⟩
     · show A.1+(A.2.take (s.1-A.1)++s.2).length=K.1+(K.2.take (s.1-K.1)++s.2).length
       rw[List.length_append,List.length_append,hl,hl2];omega
     · show(A.2.take (s.1-A.1)++s.2).drop (K.1-A.1)=K.2.take (s.1-K.1)++s.2
       rw[List.drop_append_of_le_length (by omega),←h.drop,List.drop_take,show s.1-A.1-(K.1-A.1)=s.1-K.1 by omega]
theorem Suf.fold:∀(l:List SR) (A K:SR),Suf A K→ch (some A) l→ch (some K) l∧∀B,fo (some A) l=some B→∃C,fo (some K) l=some C∧Suf B C
 |[],A,K,h,_=>⟨trivial,fun B hB=>⟨K,rfl,by rw[fo,Option.some.injEq]at hB;subst hB;exact h⟩⟩
 |s::r,A,K,h,hc=>by
  obtain⟨h1,h2⟩:=hc;obtain⟨h3,h4⟩:=h.step h1;obtain⟨h5,h6⟩:=Suf.fold r _ _ h4 h2;exact⟨⟨h3,h5⟩,h6⟩
theorem front_suf(p:List SR)(s:SR)(q:List SR)(hc:ch none (p++s::q)):ch none (s::q)∧∀B,fo none (p++s::q)=some B→∃C,fo none (s::q)=some C∧Suf B C∧C.1≤s.1:=by
 obtain⟨h1,h2,h3⟩:=(ch_append p (s::q) none).1 hc;have h4:=Suf.start (fo none p) s h2;obtain⟨h5,h6⟩:=Suf.fold q _ _ h4 h3;refine⟨⟨trivial,h5⟩,fun B hB=>?_⟩;rw[fo_append,fo]at hB;obtain⟨C,h7,h8⟩:=h6 B hB;exact⟨C,h7,h8,(fo_le q s C h7).1⟩
end Go.Proofs.YthecngkdmnadoaaGreat

namespace Go.Proofs.YthecngkdmnadoaaGreat
open Go.RowKit
set_option maxRecDepth 100000
def segAt(S:List Sec)(n:Nat):Option SR:=
 if (askR (textS S ((4*n+1:Nat):Int))).2.2=0 then some ((askR (textS S ((4*n+1:Nat):Int))).1,parse ((askR (textS S ((4*n+1:Nat):Int))).2.1.length+1) (askR (textS S ((4*n+1:Nat):Int))).2.1)else none
theorem segAt_empty{S:List Sec}{n:Nat}(h:textS S ((4*n+1:Nat):Int)=[]):segAt S n=none:=by
 unfold segAt;rw[h,if_neg ask_nil]
theorem segAt_text{S:List Sec}{n ix:Nat}{r:List Nat}(hix:ix≤4611686018427387904)(h:textS S ((4*n+1:Nat):Int)=uw ix++r):segAt S n=some (ix,parse (r.length+1) r):=by
 unfold segAt;rw[h,ask_uw hix,if_pos rfl]
def stG(g:LG):Option SR:=if g.l.length=0 then none else some (g.first,g.L)
theorem takeG_none{g:LG}{n:Nat}(h:segAt g.d.secs n=none):takeG g n=(0,g):=by
 unfold segAt at h;unfold takeG
 split at h
 · cases h
 · rename_i h1
   rw[if_pos h1]
theorem nxt_end{st:Option SR}{s:SR}(ho:okN st s):(nxt st s).1+(nxt st s).2.length=s.1+s.2.length:=by
 cases st with
 |none=>rfl
 |some A=>
  have ho':s.1≤A.1+A.2.length:=ho;show(if s.1<A.1 then s else (A.1,A.2.take (s.1-A.1)++s.2)).1+(if s.1<A.1 then s else (A.1,A.2.take (s.1-A.1)++s.2)).2.length=_
  split
  · rfl
  · simp only[List.length_append,List.length_take]
    omega
theorem takeG_some{g:LG}{n:Nat}{s:SR}(h:segAt g.d.secs n=some s)(ho:okN (stG g) s)(hb:s.1+s.2.length<4611686018427387904):takeG g n=(0,{ g with first:=(nxt (stG g) s).1,L:=(nxt (stG g) s).2,l:=g.l++[(n,s.1)] }):=by
 unfold segAt at h
 split at h
 · rename_i h1
   simp only[Option.some.injEq]at h;subst h;obtain⟨ix,rest,ae,hA⟩:∃ix rest ae,askR (textS g.d.secs ((4*n+1:Nat):Int))=(ix,rest,ae):=⟨_,_,_,rfl⟩;unfold takeG;rw[hA]at h1 ho hb ⊢
   dsimp only at h1 ho hb ⊢
   rw[if_neg (by rw[h1];decide)];by_cases h0:g.l.length=0
   · have hst:stG g=none:=if_pos h0
     have hh:headR g n ix={ g with first:=ix,L:=[],l:=g.l++[(n,ix)] }:=if_pos (.inl h0);rw[if_neg (by omega),hh,hst];rw[recsR_parse _ _ _ (by simp only[List.length_nil];omega)];simp only[List.nil_append];rfl
   · have hst:stG g=some (g.first,g.L):=if_neg h0
     rw[hst]at ho ⊢;have ho':ix≤g.first+g.L.length:=ho;rw[if_neg (by omega)];by_cases h2:ix<g.first
     · have hh:headR g n ix={ g with first:=ix,L:=[],l:=g.l++[(n,ix)] }:=if_pos (.inr h2)
       have hx:nxt (some (g.first,g.L)) (ix,parse (rest.length+1) rest)=(ix,parse (rest.length+1) rest):=if_pos h2;rw[hh,hx,recsR_parse _ _ _ (by simp only[List.length_nil];omega)];simp only[List.nil_append]
     · have hh:headR g n ix={ g with L:=g.L.take (ix-g.first),l:=g.l++[(n,ix)] }:=if_neg (by omega)
       have hx:nxt (some (g.first,g.L)) (ix,parse (rest.length+1) rest)=(g.first,g.L.take (ix-g.first)++parse (rest.length+1) rest):=if_neg h2;rw[hh,hx,recsR_parse _ _ _ (by simp only[List.length_take];omega)]
 · cases h
def segsOf(S:List Sec)(ns:List Nat):List SR:=ns.filterMap (segAt S)
def plsOf(S:List Sec)(ns:List Nat):List Pl:=ns.filterMap fun n=>(segAt S n).map fun s=>(n,s.1)
def laidG(g:LG)(ns:List Nat):LG:=match fo (stG g) (segsOf g.d.secs ns)with
 |none=>g
 |some B=>{ g with first:=B.1,L:=B.2,l:=g.l++plsOf g.d.secs ns }
theorem takesG_fo(fr:Nat):∀(ns:List Nat) (g:LG),ch (stG g) (segsOf g.d.secs (ns.filter fun n=>decide (fr≤n)))→(∀s∈segsOf g.d.secs (ns.filter fun n=>decide (fr≤n)),s.1+s.2.length<4611686018427387904) →
 takesG fr g ns=(0,laidG g (ns.filter fun n=>decide (fr≤n)))
 |[],g,_,_=>by
  rw[takesG];congr 1;show g=match fo (stG g) []with|none=>g|some B=>{ g with first:=B.1,L:=B.2,l:=g.l++[] }
  rw[fo];unfold stG;by_cases h0:g.l.length=0
  · rw[if_pos h0]
  · rw[if_neg h0,List.append_nil]
 |n::r,g,hc,hb=>by
  rw[takesG];by_cases hn:n<fr
  · rw[if_pos hn]
    rw[List.filter_cons_of_neg (by simpa using hn)]at hc hb ⊢;exact takesG_fo fr r g hc hb
  · rw[if_neg hn]
    rw[List.filter_cons_of_pos (by simpa using hn)]at hc hb ⊢;cases hs:segAt g.d.secs n with
    |none=>
     (have e1:segsOf g.d.secs (n::r.filter fun n=>decide (fr≤n))=segsOf g.d.secs (r.filter fun n=>decide (fr≤n)):=by unfold segsOf;rw[List.filterMap_cons_none hs]);have e2:laidG g (n::r.filter fun n=>decide (fr≤n))=laidG g (r.filter fun n=>decide (fr≤n)):=by
      unfold laidG;rw[e1];(have e3:plsOf g.d.secs (n::r.filter fun n=>decide (fr≤n))=plsOf g.d.secs (r.filter fun n=>decide (fr≤n)):=by unfold plsOf;rw[List.filterMap_cons_none (by rw[hs];rfl)]);rw[e3]
     rw[takeG_none hs,if_neg (by simp),e2];rw[e1]at hc hb;exact takesG_fo fr r g hc hb
    |some s=>
     (have e1:segsOf g.d.secs (n::r.filter fun n=>decide (fr≤n))=s::segsOf g.d.secs (r.filter fun n=>decide (fr≤n)):=by unfold segsOf;rw[List.filterMap_cons_some hs]);(have e3:plsOf g.d.secs (n::r.filter fun n=>decide (fr≤n))=(n,s.1)::plsOf g.d.secs (r.filter fun n=>decide (fr≤n)):=by unfold plsOf;rw[List.filterMap_cons_some (b:=(n,s.1)) (by rw[hs];rfl)]);rw[e1]at hc hb;obtain⟨h1,h2⟩:=hc;rw[takeG_some hs h1 (hb s (List.mem_cons_self ..)),if_neg (by simp)];have hst:stG { g with first:=(nxt (stG g) s).1,L:=(nxt (stG g) s).2,l:=g.l++[(n,s.1)] }=some (nxt (stG g) s):=if_neg (by simp);have ih:=takesG_fo fr r { g with first:=(nxt (stG g) s).1,L:=(nxt (stG g) s).2,l:=g.l++[(n,s.1)] } (by rw[hst];exact h2) (fun t ht=>hb t (List.mem_cons_of_mem _ ht));rw[ih];congr 1;unfold laidG;rw[hst,e1,e3,fo]
     dsimp only
     obtain⟨B,hB⟩:=fo_some (segsOf g.d.secs (r.filter fun n=>decide (fr≤n))) (nxt (stG g) s);rw[hB];simp only[List.append_assoc,List.singleton_append]
end Go.Proofs.YthecngkdmnadoaaGreat

namespace Go.Proofs.YthecngkdmnadoaaGreat
open Go.RowKit
set_option maxRecDepth 100000
def Ver(S:List Sec)(a n:Int)(o:Option (List Nat)):Prop:=match findS a n S with
 |none=>o=none
 |some s=>o=s.last∨∃v∈s.fresh,o=some v
def View(S T:List Sec):Prop:=∀a n,Ver S a n (curOf T a n)
theorem ver_none{S:List Sec}{a n:Int}{o:Option (List Nat)}(h:findS a n S=none):Ver S a n o↔o=none:=by unfold Ver;rw[h]
theorem ver_some{S:List Sec}{a n:Int}{o:Option (List Nat)}{s:Sec}(h:findS a n S=some s):Ver S a n o↔(o=s.last∨∃v∈s.fresh,o=some v):=by unfold Ver;rw[h]
theorem ver_cur(S:List Sec)(a n:Int):Ver S a n (curOf S a n):=by
 unfold curOf;cases h:findS a n S with
 |none=>exact(ver_none h).2 rfl
 |some s=>
  rw[ver_some h];show s.cur=s.last∨∃v∈s.fresh,s.cur=some v;unfold Sec.cur;cases hg:s.fresh.getLast? with
  |none=>exact .inl rfl
  |some v=>exact .inr ⟨v,List.mem_of_getLast? hg,rfl⟩
theorem View.self(S:List Sec):View S S:=fun a n=>ver_cur S a n
theorem ver_wr{S:List Sec}(hs:S.Pairwise Sec.before){a n a' n':Int}{v:List Nat}{o:Option (List Nat)}(h:Ver (wr a n v S) a' n' o):Ver S a' n' o∨(a'=a∧n'=n∧o=some v):=by
 have hf:=find_wr (a:=a) (n:=n) (v:=v) hs a' n';by_cases e:a'=a∧n'=n
 · rw[if_pos e]at hf
   rw[ver_some hf]at h;obtain⟨rfl,rfl⟩:=e;cases hg:findS a' n' S with
   |none=>
    rw[hg]at h;rcases h with h|⟨u,hu,h⟩
    · exact .inl ((ver_none hg).2 h)
    · have hu2:u∈[v]:=hu
      rw[List.mem_singleton.1 hu2]at h;exact .inr ⟨rfl,rfl,h⟩
   |some s=>
    rw[hg]at h;rcases h with h|⟨u,hu,h⟩
    · exact .inl ((ver_some hg).2 (.inl h))
    · have hu2:u∈s.fresh++[v]:=hu
      rcases List.mem_append.1 hu2 with h1|h1
      · exact .inl ((ver_some hg).2 (.inr ⟨u,h1,h⟩))
      · rw[List.mem_singleton.1 h1]at h
        exact .inr ⟨rfl,rfl,h⟩
 · rw[if_neg e]at hf
   left;unfold Ver at h ⊢
   rwa [hf]at h
theorem vcur_wr{S:List Sec}(hs:S.Pairwise Sec.before)(a n:Int)(v:List Nat)(a' n':Int):curOf (wr a n v S) a' n'=if a'=a∧n'=n then some v else curOf S a' n':=by
 unfold curOf;rw[find_wr hs];by_cases e:a'=a∧n'=n
 · rw[if_pos e,if_pos e]
   show Sec.cur (wrS a n v (findS a n S))=some v;unfold wrS Sec.cur;cases findS a n S with
   |none=>rfl
   |some s=>simp
 · rw[if_neg e,if_neg e]
theorem syS_cur(s:Sec):(syS s).cur=s.cur:=rfl
theorem vcur_sy(a:Int)(S:List Sec)(a' n':Int):curOf (sy a S) a' n'=curOf S a' n':=by
 unfold curOf;rw[find_sy];cases findS a' n' S with
 |none=>rfl
 |some s=>
  show Sec.cur (if s.area=a then syS s else s)=s.cur
  split<;>rfl
theorem ver_sy{a a' n':Int}{S:List Sec}{o:Option (List Nat)}(h:Ver (sy a S) a' n' o):(a'=a→o=curOf S a' n')∧Ver S a' n' o:=by
 have hc:=ver_cur S a' n';cases hg:findS a' n' S with
 |none=>
  have hf:findS a' n' (sy a S)=none:=by rw[find_sy,hg];rfl
  have:=(ver_none hf).1 h;refine⟨fun _=>?_,(ver_none hg).2 this⟩;rw[this,curOf,hg];rfl
 |some s=>
  have hat:=findS_at hg;have hf:findS a' n' (sy a S)=some (if s.area=a then syS s else s):=by rw[find_sy,hg];rfl
  rw[ver_some hf]at h;by_cases e:s.area=a
  · rw[if_pos e]at h
    rcases h with h|⟨u,hu,_⟩
    · have hcs:o=curOf S a' n':=by
       rw[h,curOf,hg];rfl
      exact⟨fun _=>hcs,hcs▸hc⟩
    · cases hu
  · rw[if_neg e]at h
    exact⟨fun e2=>absurd (hat.1.trans e2) e,(ver_some hg).2 h⟩
theorem ver_fr{a a' n':Int}{S:List Sec}{o:Option (List Nat)}:Ver (fr a S) a' n' o↔if a'=a then o=none else Ver S a' n' o:=by
 have hf:=find_fr a a' n' S;by_cases e:a'=a
 · rw[if_pos e]at hf ⊢
   exact ver_none hf
 · rw[if_neg e]at hf ⊢
   unfold Ver;rw[hf]
theorem vcur_fr(a:Int)(S:List Sec)(a' n':Int):curOf (fr a S) a' n'=if a'=a then none else curOf S a' n':=by
 unfold curOf;rw[find_fr]
 split<;>rfl
def OkV(P:List Nat)(m h:Nat)(i:Nat)(o:Option (List Nat)):Prop:=
 (o=none∧m≤63*i)∨∃v c,o=some v∧c≤63∧63*i+c≤P.length∧saysN v=c∧saysT v=(P.drop (63*i)).take c∧(c=63∨m≤63*i+c)∧(i=0→h≤c)
theorem OkV.more{P:List Nat}{m m' h i:Nat}{o:Option (List Nat)}(hv:OkV P m h i o)(hm:m'≤m)(Q:List Nat):OkV (P++Q) m' h i o:=by
 rcases hv with⟨h1,h2⟩|⟨v,c,h1,h2,h3,h4,h5,h6,h7⟩
 · exact .inl ⟨h1,by omega⟩
 · refine .inr ⟨v,c,h1,h2,by rw[List.length_append];omega,h4,?_,by omega,h7⟩
   rw[h5,List.drop_append_of_le_length (by omega),List.take_append_of_le_length (by rw[List.length_drop];omega)]
theorem text_from{T:List Sec}{a:Int}{P:List Nat}{m h:Nat}(hv:∀i:Nat,OkV P m h i (curOf T a (i:Int))):∀(f i:Nat),63*i≤P.length→P.length<63*(i+f)→∃j,textF T a f i=(P.drop (63*i)).take j∧63*i+j≤P.length∧m≤63*i+j∧(i=0→j=0∨h≤j)
 |0,i,h1,h2=>by omega
 |f+1,i,h1,h2=>by
  rcases hv i with⟨e,hm⟩|⟨v,c,e,hc,hl,hn,ht,hm,hh⟩
  · exact⟨0,by rw[textF_none e,List.take_zero],by omega,by omega,fun _ => .inl rfl⟩
  · by_cases hlt:saysN v<63
    · exact⟨c,by rw[textF_last e hlt,ht],hl,by omega,fun h0 => .inr (hh h0)⟩
    · have hc63:c=63:=by omega
      subst hc63;obtain⟨j,q1,q2,q3,_⟩:=text_from hv f (i+1) (by omega) (by omega);refine⟨63+j,?_,by omega,by omega,fun h0 => .inr (by have:=hh h0;omega)⟩;rw[textF_more e hlt,ht,q1,show 63*(i+1)=63*i+63 by omega,←List.drop_drop,List.take_add]
theorem text_found{T:List Sec}{a:Int}{P:List Nat}{m h:Nat}(hv:∀i:Nat,OkV P m h i (curOf T a (i:Int)))(hl:P.length<4128768):∃j,textS T a=P.take j∧j≤P.length∧m≤j∧(j=0∨h≤j):=by
 obtain⟨j,h1,h2,h3,h4⟩:=text_from hv 65536 0 (by omega) (by omega);exact⟨j,by rw[textS,h1,Nat.mul_zero,List.drop_zero],by omega,by omega,h4 rfl⟩
theorem text_whole{T:List Sec}{a:Int}{P:List Nat}{h:Nat}(hv:∀i:Nat,OkV P P.length h i (curOf T a (i:Int)))(hl:P.length<4128768):textS T a=P:=by
 obtain⟨j,h1,h2,h3,_⟩:=text_found hv hl;rw[h1,List.take_of_length_le h3]
theorem text_empty{T:List Sec}{a:Int}(h:∀i:Nat,curOf T a (i:Int)=none):textS T a=[]:=by
 rw[textS,textF_none (h 0)]
end Go.Proofs.YthecngkdmnadoaaGreat
