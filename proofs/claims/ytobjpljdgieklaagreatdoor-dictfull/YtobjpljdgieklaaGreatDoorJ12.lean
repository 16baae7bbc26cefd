import Derived.Test.YtobjpljdgieklaaGreatDoorJ9
import Derived.Test.YtobjpljdgieklaaGreatDoorJ8
import Derived.Deep.RegionHeld3
import Derived.Deep.DrawnRows
import Derived.Deep.QuietTactic
import Derived.BigQuiet
set_option maxRecDepth 100000
namespace Go.Proofs.YtobjpljdgieklaaGreatDoor
namespace Nums
def lexL:List Int→List Int→Bool
 |_,[]=>false
 |[],_::_=>true
 |a::x,b::y=>decide (a<b)||(decide (a=b)&&lexL x y)
theorem zEs(x:List Int):lexL x []=false:=by cases x<;>rfl
theorem zCn(a b:Int)(x y:List Int):lexL (a::x) (b::y)=(decide (a<b)||(decide (a=b)&&lexL x y)):=rfl
theorem zEd(a:Int)(x y:List Int):lexL (a::x) (a::y)=lexL x y:=by simp[zCn]
theorem zQy:∀(p x y:List Int),lexL (p++x) (p++y)=lexL x y
 |[],_,_=>rfl
 |a::p,x,y=>by rw[List.cons_append,List.cons_append,zEd,zQy p]
theorem zJs:∀x y:List Int,lexL x y=true→lexL y x=false
 |_,[],h=>by rw[zEs]at h;cases h
 |[],_::_,_=>rfl
 |a::x,b::y,h=>by
  rw[zCn]at h ⊢;by_cases e:a=b
  · subst e
    simp at h ⊢;exact zJs x y h
  · simp[e]at h
    simp;omega
theorem zVw:∀(k:Nat) (xs ys:List Int),k<xs.length→k<ys.length→(∀j,j<k→xs.getD j 0=ys.getD j 0)→xs.getD k 0≠ys.getD k 0→lexL xs ys=decide (xs.getD k 0<ys.getD k 0)
 |_,[],_,h,_,_,_=>by simp at h
 |_,_::_,[],_,h,_,_=>by simp at h
 |0,a::x,b::y,_,_,_,hn=>by
  have hn':a≠b:=hn;rw[zCn,decide_eq_false hn'];simp
 |k+1,a::x,b::y,h1,h2,ha,hn=>by
  have e:a=b:=ha 0 (by omega);subst e;rw[zEd,zVw k x y (by simpa using h1) (by simpa using h2) (fun j hj=>by have:=ha (j+1) (by omega);simpa using this) (by simpa using hn)];simp
theorem zK8:∀(k:Nat) (xs ys:List Int),k≤xs.length→k≤ys.length→(∀j,j<k→xs.getD j 0=ys.getD j 0)→(k=xs.length∨k=ys.length)→lexL xs ys=decide (xs.length<ys.length)
 |_,xs,[],_,_,_,_=>by rw[zEs];simp
 |_,[],_::_,_,_,_,_=>by simp[lexL]
 |0,a::x,b::y,_,_,_,h=>by simp at h
 |k+1,a::x,b::y,h1,h2,ha,h=>by
  have e:a=b:=ha 0 (by omega);subst e;rw[zEd,zK8 k x y (by simpa using h1) (by simpa using h2) (fun j hj=>by have:=ha (j+1) (by omega);simpa using this) (by simpa using h)];simp
def N(c:UInt8):Int:=(c.toNat:Int)
theorem zLa:∀a b:List UInt8,Op.bytesLess a b=lexL (a.map N) (b.map N)
 |_,[]=>by rw[Op.bytesLess.eq_1,List.map_nil,zEs]
 |[],_::_=>by rw[Op.bytesLess.eq_2];rfl
 |a::x,b::y=>by
  rw[Op.bytesLess.eq_3,List.map_cons,List.map_cons,zCn,zLa x y];have e1:decide (a<b)=decide (N a<N b):=decide_eq_decide.2 (by unfold N;rw[UInt8.lt_iff_toNat_lt];omega);have e2:(a==b)=decide (N a=N b):=by
   rw[Bool.eq_iff_iff,beq_iff_eq,decide_eq_true_iff];unfold N;exact⟨fun h=>by rw[h],fun h=>UInt8.toNat_inj.1 (by omega)⟩
  rw[e1,e2]
theorem zJ8(l:List UInt8)(i:Nat):(l.map N).getD i 0=bt l i:=by
 unfold bt;rw[List.getD_eq_getElem?_getD,List.getElem?_map,List.getD_eq_getElem?_getD];cases l[i]?<;>rfl
theorem zTs{r:Int}(h:isR r=true):(wr r).map N=wrI r:=by
 have hb:=of_decide_eq_true h;unfold wr;rw[List.map_map];have:∀x∈wrI r,(N∘u8) x=x:=by
  intro x hx;refine zD2 ?_ ?_
  all_goals
   revert hx;unfold wrI
   repeat' split
   all_goals
    intro hx;simp at hx;omega
 rw[List.map_congr_left this,List.map_id']
theorem lex_wr{x y:Int}(hx:isR x=true)(hy:isR y=true)(h:x<y)(s t:List Int):lexL (wrI x++s) (wrI y++t)=true:=by
 have bx:=of_decide_eq_true hx;have byy:=of_decide_eq_true hy;clear hx hy;have cx:(x<128∧wrI x=[x])∨(128≤x∧x<2048∧wrI x=[192+x/64,128+x%64])∨(2048≤x∧x<65536∧wrI x=[224+x/64/64,128+x/64%64,128+x%64])∨(65536≤x∧wrI x=[240+x/64/64/64,128+x/64/64%64,128+x/64%64,128+x%64]):=by
  by_cases a:x<128
  · exact .inl ⟨a,wrI1 a⟩
  by_cases b:x<2048
  · exact .inr (.inl ⟨by omega,b,wrI2 (by omega) b⟩)
  by_cases c:x<65536
  · exact .inr (.inr (.inl ⟨by omega,c,wrI3 (by omega) c⟩))
  · exact .inr (.inr (.inr ⟨by omega,wrI4 (by omega)⟩))
 have cy:(y<128∧wrI y=[y])∨(128≤y∧y<2048∧wrI y=[192+y/64,128+y%64])∨(2048≤y∧y<65536∧wrI y=[224+y/64/64,128+y/64%64,128+y%64])∨(65536≤y∧wrI y=[240+y/64/64/64,128+y/64/64%64,128+y/64%64,128+y%64]):=by
  by_cases a:y<128
  · exact .inl ⟨a,wrI1 a⟩
  by_cases b:y<2048
  · exact .inr (.inl ⟨by omega,b,wrI2 (by omega) b⟩)
  by_cases c:y<65536
  · exact .inr (.inr (.inl ⟨by omega,c,wrI3 (by omega) c⟩))
  · exact .inr (.inr (.inr ⟨by omega,wrI4 (by omega)⟩))
 rcases cx with⟨x1,ex⟩|⟨x0,x1,ex⟩|⟨x0,x1,ex⟩|⟨x0,ex⟩<;>rcases cy with⟨y1,ey⟩|⟨y0,y1,ey⟩|⟨y0,y1,ey⟩|⟨y0,ey⟩<;>rw[ex,ey] <;>
  simp only[List.cons_append,List.nil_append,zCn,Bool.or_eq_true,Bool.and_eq_true,decide_eq_true_eq]<;>omega
theorem zH4:∀(xs ys:List Int),xs.all isR=true→ys.all isR=true→lexL ((xs.flatMap wr).map N) ((ys.flatMap wr).map N)=lexL xs ys
 |xs,[],_,_=>by simp[zEs]
 |[],y::ys,_,h=>by
  have hy:isR y=true:=by simp at h;exact h.1
  rw[List.flatMap_cons,List.map_append,zTs hy];have hl:=zKd y;cases e:wrI y with
  |nil=>rw[e]at hl;simp at hl
  |cons a t=>rfl
 |x::xs,y::ys,hxs,hys=>by
  have hx:isR x=true:=by simp at hxs;exact hxs.1
  have hy:isR y=true:=by simp at hys;exact hys.1
  have hx2:xs.all isR=true:=by simp at hxs;simpa using hxs.2
  have hy2:ys.all isR=true:=by simp at hys;simpa using hys.2
  rw[List.flatMap_cons,List.flatMap_cons,List.map_append,List.map_append,zTs hx,zTs hy,zCn];by_cases e:x=y
  · subst e
    rw[zQy,zH4 xs ys hx2 hy2];simp
  by_cases l:x<y
  · rw[lex_wr hx hy l];simp[l]
  · rw[zJs _ _ (lex_wr hy hx (by omega) _ _)];simp[l,e]
theorem order_rs{a b:List UInt8}{xs ys:List Int}(h1:rs a=some xs)(h2:rs b=some ys):lexL (a.map N) (b.map N)=lexL xs ys:=by
 obtain⟨p1,p2⟩:=zEp h1;obtain⟨q1,q2⟩:=zEp h2;have:=zH4 xs ys p1 q1;rw[p2,q2]at this;exact this
end Nums
namespace Fm
open Go.Proofs.YtobjpljdgieklaaGreatDoor.Nums
def Rise(S:List En):Prop:=S.Pairwise fun a b=>lexL a.1 b.1=true
theorem zVv{x y:List Int}(h:lexL x y=true):y≠[]:=fun e=>by rw[e,zEs]at h;cases h
theorem zB7{S:List En}(h:Rise S):Rise (zAk S)∧∀e∈zAk S,e.1≠[]:=by
 cases S with
 |nil=>exact⟨h,fun e he=>by cases he⟩
 |cons x r=>
  obtain⟨a,n⟩:=x;obtain⟨h1,h2⟩:=List.pairwise_cons.1 h;cases a with
  |nil=>exact⟨h2,fun e he=>zVv (h1 e he)⟩
  |cons c t=>
   refine⟨h,fun e he=>?_⟩;rcases List.mem_cons.1 he with rfl|he
   · simp
   · exact zVv (h1 e he)
def pre(c:Int)(e:En):En:=(c::e.1,e.2)
theorem zU2{e:En}(h:e.1≠[]):pre (hd e) (tl e)=e:=by
 obtain⟨x,n⟩:=e;cases x with
 |nil=>exact absurd rfl h
 |cons c t=>rfl
def flat(gs:List (Int×List En)):List En:=gs.flatMap fun p=>p.2.map (pre p.1)
theorem zV0(c:Int):∀(r:List En),∀e∈r.take (lead c r),hd e=c
 |[],e,h=>by simp at h
 |x::r,e,h=>by
  rw[lead]at h
  split at h
  · rename_i hx
    rw[List.take_succ_cons]at h;rcases List.mem_cons.1 h with rfl|h
    · exact hx
    · exact zV0 c r e h
  · simp at h
theorem zJr{c:Int}:∀(l:List En),(∀e∈l,e.1≠[]∧hd e=c)→(l.map tl).map (pre c)=l
 |[],_=>rfl
 |e::r,h=>by
  obtain⟨h1,h2⟩:=h e (by simp);rw[List.map_cons,List.map_cons,zJr r fun x hx=>h x (by simp[hx]),←h2,zU2 h1]
theorem zQ9{e:En}{r:List En}:∀x∈(e::r).take (lead (hd e) r+1),hd x=hd e:=fun x hx=>by
 rw[List.take_succ_cons]at hx;rcases List.mem_cons.1 hx with rfl|hx
 · rfl
 · exact zV0 _ _ x hx
theorem zEv:∀(n:Nat) (l:List En),l.length≤n→(∀e∈l,e.1≠[])→flat (grp l)=l
 |_,[],_,_=>rfl
 |0,e::r,h,_=>by simp at h
 |n+1,e::r,h,hne=>by
  rw[zCw,flat,List.flatMap_cons,←flat];rw[zEv n _ (by rw[List.length_drop];simp at h ⊢;omega) (fun x hx=>hne x (List.mem_of_mem_drop hx))];rw[zJr _ fun x hx=>⟨hne x (List.mem_of_mem_take hx),zQ9 x hx⟩,List.take_append_drop]
theorem zJw:∀(n:Nat) (l:List En),l.length≤n→∀p∈grp l,p.2≠[]
 |_,[],_,_,h=>by cases h
 |0,e::r,h,_,_=>by simp at h
 |n+1,e::r,h,p,hp=>by
  rw[zCw]at hp;rcases List.mem_cons.1 hp with rfl|hp
  · simp
  · exact zJw n _ (by rw[List.length_drop];simp at h ⊢;omega) p hp
theorem zGu{l:List En}(hne:∀e∈l,e.1≠[]){p:Int×List En}(hp:p∈grp l){e:En}(he:e∈p.2):pre p.1 e∈l:=by
 rw[←zEv _ l (Nat.le_refl _) hne];exact List.mem_flatMap.2 ⟨p,hp,List.mem_map.2 ⟨e,he,rfl⟩⟩
theorem rise_tl{c:Int}{l:List En}(h:Rise l)(hc:∀e∈l,e.1≠[]∧hd e=c):Rise (l.map tl):=by
 unfold Rise;rw[List.pairwise_map];refine List.Pairwise.imp_of_mem ?_ h;intro a b ha hb hab;obtain⟨h1,h2⟩:=hc a ha;obtain⟨h3,h4⟩:=hc b hb;obtain⟨x,n⟩:=a;obtain⟨y,m⟩:=b;cases x with
 |nil=>exact absurd rfl h1
 |cons p x=>
  cases y with
  |nil=>exact absurd rfl h3
  |cons q y=>
   have e1:p=c:=h2;have e2:q=c:=h4;rw[e1,e2]at hab;show lexL x y=true;rw[←zEd c x y];exact hab
theorem zHf:∀(n:Nat) (l:List En),l.length≤n→(∀e∈l,e.1≠[])→Rise l→∀p∈grp l,Rise p.2
 |_,[],_,_,_,_,h=>by cases h
 |0,e::r,h,_,_,_,_=>by simp at h
 |n+1,e::r,h,hne,hr,p,hp=>by
  rw[zCw]at hp;rcases List.mem_cons.1 hp with rfl|hp
  · exact rise_tl (List.Pairwise.sublist (List.take_sublist _ _) hr) fun x hx=>⟨hne x (List.mem_of_mem_take hx),zQ9 x hx⟩
  · exact zHf n _ (by rw[List.length_drop];simp at h ⊢;omega) (fun x hx=>hne x (List.mem_of_mem_drop hx)) (List.Pairwise.sublist (List.drop_sublist _ _) hr) p hp
theorem hd_le{a b:En}(h:lexL a.1 b.1=true)(ha:a.1≠[]):hd a≤hd b:=by
 obtain⟨x,n⟩:=a;obtain⟨y,m⟩:=b;cases x with
 |nil=>exact absurd rfl ha
 |cons p x=>
  cases y with
  |nil=>rw[zEs]at h;cases h
  |cons q y=>
   rw[zCn]at h;show p≤q;simp only[Bool.or_eq_true,Bool.and_eq_true,decide_eq_true_eq]at h;omega
theorem zMv(c:Int):∀(r:List En) (x:En),r[lead c r]?=some x→hd x≠c
 |[],x,h=>by simp at h
 |e::r,x,h=>by
  rw[lead]at h
  split at h
  · exact zMv c r x (by simpa using h)
  · rename_i hne
    simp at h;subst h;exact hne
theorem zEt:∀(n:Nat) (l:List En),l.length≤n→(∀e∈l,e.1≠[])→Rise l→(grp l).Pairwise (fun p q=>p.1<q.1)∧∀p∈grp l,∃e∈l,hd e=p.1
 |_,[],_,_,_=>⟨List.Pairwise.nil,fun p h=>by cases h⟩
 |0,e::r,h,_,_=>by simp at h
 |n+1,e::r,h,hne,hr=>by
  obtain⟨ih1,ih2⟩:=zEt n ((e::r).drop (lead (hd e) r+1)) (by rw[List.length_drop];simp at h ⊢;omega) (fun x hx=>hne x (List.mem_of_mem_drop hx)) (List.Pairwise.sublist (List.drop_sublist _ _) hr);rw[zCw];obtain⟨hr1,hr2⟩:=List.pairwise_cons.1 hr;have hgt:∀x∈(e::r).drop (lead (hd e) r+1),hd e<hd x:=fun x hx=>by
   rw[List.drop_succ_cons]at hx;have hxr:=List.mem_of_mem_drop hx;have h1:=hd_le (hr1 x hxr) (hne e (by simp));obtain⟨j,hj⟩:=List.mem_iff_getElem?.1 hx;rw[List.getElem?_drop]at hj;obtain⟨hjl,hje⟩:=List.getElem?_eq_some_iff.1 hj;obtain⟨y,hy⟩:∃y,r[lead (hd e) r]?=some y:=⟨r[lead (hd e) r]'(by omega),List.getElem?_eq_getElem _⟩;have hyn:=zMv _ _ _ hy;obtain⟨hyl,hye⟩:=List.getElem?_eq_some_iff.1 hy;have hym:y∈r:=List.mem_of_getElem? hy;have h2:=hd_le (hr1 y hym) (hne e (by simp));have h3:hd y≤hd x:=by
    cases j with
    |zero=>rw[Nat.add_zero,hy]at hj;cases hj;exact Int.le_refl _
    |succ j=>
     have:=List.pairwise_iff_getElem.1 hr2 (lead (hd e) r) (lead (hd e) r+(j+1)) hyl hjl (by omega);rw[hye,hje]at this;exact hd_le this (hne y (by simp[hym]))
   omega
  refine⟨List.pairwise_cons.2 ⟨fun p hp=>?_,ih1⟩,fun p hp=>?_⟩
  · obtain⟨x,hx,hxe⟩:=ih2 p hp
    rw[←hxe];exact hgt x hx
  · rcases List.mem_cons.1 hp with rfl|hp
    · exact⟨e,by simp,rfl⟩
    · obtain⟨x,hx,hxe⟩:=ih2 p hp
      exact⟨x,List.mem_of_mem_drop hx,hxe⟩
theorem zGn:∀(f:Nat) (S:List En),S≠[]→Rise S→(∀e∈S,e.1.length<f)→Ok f S
 |0,S,h,_,hl=>by
  cases S with
  |nil=>exact absurd rfl h
  |cons e r=>exact absurd (hl e (by simp)) (by omega)
 |f+1,S,h,hr,hl=>by
  obtain⟨h1,h2⟩:=zB7 hr;have hsub:∀e∈zAk S,e∈S:=fun e he=>by
   cases S with
   |nil=>exact he
   |cons x r=>
    obtain⟨a,n⟩:=x;cases a with
    |nil=>exact .tail _ he
    |cons c t=>exact he
  refine⟨h,h2,fun p hp=>zGn f p.2 (zJw _ _ (Nat.le_refl _) p hp) (zHf _ _ (Nat.le_refl _) h2 h1 p hp) fun e he=>?_⟩;have:=hl _ (hsub _ (zGu h2 hp he));simp only[pre,List.length_cons]at this;omega
end Fm
namespace Fm
open Go.Proofs.YtobjpljdgieklaaGreatDoor.Nums
def zAm(n:Int)(S:List En):List En:=S.map fun e=>(e.1,e.2+n)
def zAr(S:List En):List En:=zAm (-least S) S
theorem zQa{n:Int}{S:List En}:zAm n S≠[]↔S≠[]:=by simp[zAm]
theorem zCe(S:List En):zAm 0 S=S:=by simp[zAm]
theorem zB1(m n:Int)(S:List En):zAm m (zAm n S)=zAm (n+m) S:=by
 simp only[zAm,List.map_map];refine List.map_congr_left fun e _=>?_
 simp only[Function.comp,Int.add_assoc]
theorem zG5(n:Int):∀(l:List En) (m:Int),zAz (m+n) (zAm n l)=zAz m l+n
 |[],_=>rfl
 |e::r,m=>by
  have ih:=zG5 n r (if e.2<m then e.2 else m);rw[zAm,List.map_cons,←zAm,zAz,zAz,←ih];congr 1;simp only
  split<;>split<;>omega
theorem zB2(n:Int){S:List En}(h:S≠[]):least (zAm n S)=least S+n:=by
 cases S with
 |nil=>exact absurd rfl h
 |cons e r=>exact zG5 n (e::r) e.2
theorem zH9{S:List En}(h:S≠[]):least (zAr S)=0:=by rw[zAr,zB2 _ h];omega
theorem zE7(n:Int){S:List En}(h:S≠[]):zAr (zAm n S)=zAr S:=by
 rw[zAr,zB2 n h,zB1,zAr];congr 1;omega
theorem level_of{S:List En}(h:least S=0):zAr S=S:=by rw[zAr,h];exact zCe S
theorem zK9{S:List En}:zAr S≠[]↔S≠[]:=zQa
theorem zDl(n:Int)(S:List En):zAm n (zAr S)=zAm (n-least S) S:=by rw[zAr,zB1];congr 1;omega
theorem zUf{n:Int}{S T:List En}(h:zAm n S=zAm n T):S=T:=by
 have:=congrArg (zAm (-n)) h;rw[zB1,zB1,Int.add_right_neg,zCe,zCe]at this;exact this
theorem zIc(n:Int):∀l:List En,grp (zAm n l)=(grp l).map fun p=>(p.1,zAm n p.2)
 |[]=>rfl
 |e::r=>by
  have ih:=zIc n r;rw[zAm,List.map_cons,←zAm,grp,grp,ih];cases grp r with
  |nil=>rfl
  |cons p gs=>
   obtain⟨c,G⟩:=p;simp only[List.map_cons];have hh:hd (e.1,e.2+n)=hd e:=rfl;rw[hh];by_cases h:hd e=c
   · rw[if_pos h,if_pos h];rfl
   · rw[if_neg h,if_neg h];rfl
theorem zG4(n:Int)(S:List En):zAk (zAm n S)=zAm n (zAk S):=by
 cases S with
 |nil=>rfl
 |cons e r=>
  obtain⟨x,m⟩:=e;cases x<;>rfl
theorem zIe(n:Int)(S:List En):zDg (zAm n S)=zDg S:=by
 cases S with
 |nil=>rfl
 |cons e r=>
  obtain⟨x,m⟩:=e;cases x<;>rfl
theorem zGv(n:Int)(gs:List (Int×List En)):zAm n (flat gs)=flat (gs.map fun p=>(p.1,zAm n p.2)):=by
 simp only[zAm,flat,List.map_flatMap,List.flatMap_map,List.map_map];rfl
def outs(D:List (List En))(as':List Arc):List (Int×List En):=as'.map fun a=>(a.label,zAm a.out (D[a.to]?.getD []))
def fins(s:St):List En:=if s.final then [([],s.out)]else []
def exp(D:List (List En))(s:St):List En:=fins s++flat (outs D s.arcs)
structure Canon(D:List (List En))(s:St):Prop where
 lab:s.arcs.Pairwise fun a b=>a.label<b.label
 to:∀a∈s.arcs,a.to<D.length
 fin:s.final=false→s.out=0
structure Inv(D:List (List En))(b:List St):Prop where
 len:D.length=b.length
 row:∀(i:Nat) (s:St),b[i]?=some s→D[i]?=some (exp D s)∧(∀a∈s.arcs,a.to<i)∧Canon D s
 nd:D.Nodup
 lv:∀R∈D,R≠[]∧least R=0
theorem Inv.nil:Inv [] []:=⟨rfl,fun i s h=>by simp at h,List.nodup_nil,fun R h=>by cases h⟩
theorem zKy{α:Type}{D D':List α}(h:D<+:D'){i:Nat}(hi:i<D.length):D'[i]?=D[i]?:=by
 obtain⟨t,rfl⟩:=h;exact List.getElem?_append_left hi
theorem outs_pre{D D':List (List En)}(h:D<+:D'){l:List Arc}(ht:∀a∈l,a.to<D.length):outs D' l=outs D l:=by
 unfold outs;refine List.map_congr_left fun a ha=>?_
 rw[zKy h (ht a ha)]
theorem zIg{D D':List (List En)}(h:D<+:D'){s:St}(ht:∀a∈s.arcs,a.to<D.length):exp D' s=exp D s:=by
 rw[exp,exp,outs_pre h ht]
theorem Canon.pre{D D':List (List En)}(h:D<+:D'){s:St}(c:Canon D s):Canon D' s:=⟨c.lab,fun a ha=>Nat.lt_of_lt_of_le (c.to a ha) h.length_le,c.fin⟩
theorem zWv{gs:List (Int×List En)}:∀e∈flat gs,e.1≠[]:=fun e he=>by
 obtain⟨p,_,h2⟩:=List.mem_flatMap.1 he;obtain⟨x,_,rfl⟩:=List.mem_map.1 h2;simp[pre]
theorem zRa:∀(gs:List (Int×List En)),(∀p∈gs,p.2≠[])→gs.Pairwise (fun p q=>p.1<q.1)→grp (flat gs)=gs
 |[],_,_=>rfl
 |(c,G)::r,hne,hp=>by
  obtain⟨h1,h2⟩:=List.pairwise_cons.1 hp;have ih:=zRa r (fun p hp=>hne p (by simp[hp])) h2;have key:∀(G:List En),G≠[]→grp (G.map (pre c)++flat r)=(c,G)::r:=by
   intro G
   induction G with
   |nil=>intro h;exact absurd rfl h
   |cons g0 G' ihG=>
    intro _;rw[List.map_cons,List.cons_append,grp];have hh:hd (pre c g0)=c:=rfl;have ht:tl (pre c g0)=g0:=rfl;by_cases hG:G'=[]
    · subst hG
      rw[List.map_nil,List.nil_append,ih,hh,ht];cases r with
      |nil=>rfl
      |cons p r'=>
       obtain⟨c',G''⟩:=p;(have:¬c=c':=fun e=>by have:=h1 (c',G'') (by simp);simp only at this;omega);simp only[if_neg this]
    · rw[ihG hG,hh,ht]
      simp
  have:flat ((c,G)::r)=G.map (pre c)++flat r:=rfl;rw[this];exact key G (hne (c,G) (by simp))
theorem zSw(s:St){T:List En}(hT:∀e∈T,e.1≠[]):zDg (fins s++T)=s.final∧zAk (fins s++T)=T:=by
 unfold fins;cases s.final with
 |true=>exact⟨rfl,rfl⟩
 |false=>
  cases T with
  |nil=>exact⟨rfl,rfl⟩
  |cons e r=>
   obtain⟨x,n⟩:=e;cases x with
   |nil=>exact absurd rfl (hT ([],n) (by simp))
   |cons c t=>exact⟨rfl,rfl⟩
theorem outs_ok{D:List (List En)}{l:List Arc}(hlv:∀R∈D,R≠[]∧least R=0)(ht:∀a∈l,a.to<D.length):∀p∈outs D l,p.2≠[]:=fun p hp=>by
 obtain⟨a,ha,rfl⟩:=List.mem_map.1 hp;rw[List.getElem?_eq_getElem (ht a ha)];exact zQa.2 (hlv _ (List.getElem_mem _)).1
theorem outs_lab{D:List (List En)}{l:List Arc}(h:l.Pairwise fun a b=>a.label<b.label):(outs D l).Pairwise fun p q=>p.1<q.1:=by
 unfold outs;rw[List.pairwise_map];exact h
theorem zLg{D:List (List En)}{s:St}(hlv:∀R∈D,R≠[]∧least R=0)(c:Canon D s):zDg (exp D s)=s.final∧grp (zAk (exp D s))=outs D s.arcs:=by
 obtain⟨h1,h2⟩:=zSw s (T:=flat (outs D s.arcs)) zWv;rw[exp,h1,h2];exact⟨rfl,zRa _ (outs_ok hlv c.to) (outs_lab c.lab)⟩
theorem zGp{D:List (List En)}(hn:D.Nodup){i j:Nat}(hi:i<D.length)(hj:j<D.length)(h:D[i]?.getD []=D[j]?.getD []):i=j:=by
 rw[List.getElem?_eq_getElem hi,List.getElem?_eq_getElem hj]at h;simp only[Option.getD_some]at h;have hp:=List.pairwise_iff_getElem.1 hn;rcases Nat.lt_trichotomy i j with h3|h3|h3
 · exact absurd h (hp i j hi hj h3)
 · exact h3
 · exact absurd h.symm (hp j i hj hi h3)
theorem zQo{D:List (List En)}(hn:D.Nodup)(hlv:∀R∈D,R≠[]∧least R=0):∀(l m:List Arc),(∀a∈l,a.to<D.length)→(∀a∈m,a.to<D.length)→outs D l=outs D m→l=m
 |[],[],_,_,_=>rfl
 |[],_::_,_,_,h=>by simp[outs]at h
 |_::_,[],_,_,h=>by simp[outs]at h
 |a::l,c::m,hl,hm,h=>by
  simp only[outs,List.map_cons,List.cons.injEq,Prod.mk.injEq]at h;obtain⟨⟨h1,h2⟩,h3⟩:=h;have ha:=hl a (by simp);have hc:=hm c (by simp);have va:=hlv _ (List.getElem_mem ha);have vc:=hlv _ (List.getElem_mem hc);have h2':=h2;rw[List.getElem?_eq_getElem ha,List.getElem?_eq_getElem hc]at h2';simp only[Option.getD_some]at h2';have ho:a.out=c.out:=by
   have:=congrArg least h2';rw[zB2 _ va.1,zB2 _ vc.1,va.2,vc.2]at this;omega
  rw[ho]at h2;have ht:=zGp hn ha hc (zUf h2);have e:a=c:=by cases a;cases c;simp only at h1 ho ht;rw[h1,ho,ht]
  rw[e,zQo hn hlv l m (fun x hx=>hl x (by simp[hx])) (fun x hx=>hm x (by simp[hx])) h3]
theorem zWz{D:List (List En)}(hn:D.Nodup)(hlv:∀R∈D,R≠[]∧least R=0){s t:St}(cs:Canon D s)(ct:Canon D t)(h:exp D s=exp D t):s=t:=by
 obtain⟨f1,g1⟩:=zLg hlv cs;obtain⟨f2,g2⟩:=zLg hlv ct;rw[h,f2]at f1;rw[h,g2]at g1;have ha:=zQo hn hlv _ _ cs.to ct.to g1.symm;have ho:s.out=t.out:=by
  cases hf:s.final with
  |false=>rw[cs.fin hf,ct.fin (by rw[f1,hf])]
  |true=>
   rw[exp,exp,fins,fins,hf,f1,hf]at h;simp only[if_true,List.cons_append,List.nil_append,List.cons.injEq,Prod.mk.injEq,true_and]at h;exact h.1
 cases s;cases t;simp only at f1 ha ho;rw[f1,ha,ho]
end Fm
namespace Fm
open Go.Proofs.YtobjpljdgieklaaGreatDoor.Nums
inductive Sub:List En→List En→Prop
 |here (S:List En):Sub S (zAr S)
 |step {S R:List En} {p:Int×List En}:p∈grp (zAk S)→Sub p.2 R→Sub S R
structure Mkd(D:List (List En))(S:List En)(b:List St)(r:List St×Nat)(D':List (List En)):Prop where
 inv:Inv D' r.1
 ext:D<+:D'
 num:D'[r.2]?=some (zAr S)
 old:∀i,D[i]?=some (zAr S)→r=(b,i)∧D'=D
 sub:∀R∈D',R∈D∨Sub S R
 all:∀R,Sub S R→R∈D'
def Good(f:Nat)(S:List En):Prop:=S≠[]∧Rise S∧∀e∈S,e.1.length<f
structure MkdAll(base:Int)(D:List (List En))(gs:List (Int×List En))(b:List St)(r:List St×List Arc)(D':List (List En)):Prop where
 inv:Inv D' r.1
 ext:D<+:D'
 outs:outs D' r.2=gs.map fun p=>(p.1,zAm (-base) p.2)
 to:∀a∈r.2,a.to<D'.length
 old:(∀p∈gs,zAr p.2∈D)→r.1=b∧D'=D
 sub:∀R∈D',R∈D∨∃p∈gs,Sub p.2 R
 all:∀p∈gs,∀R,Sub p.2 R→R∈D'
theorem zHo{f:Nat}{base:Int}(ih:∀(D:List (List En)) (b:List St) (S:List En),Inv D b→Good f S→∃D',Mkd D S b (stF f b S) D'):
 ∀(gs:List (Int×List En)) (D:List (List En)) (b:List St),Inv D b→(∀p∈gs,Good f p.2)→∃D',MkdAll base D gs b (arF (stF f) base b gs) D'
 |[],D,b,hI,_=>⟨D,hI,List.prefix_refl _,rfl,fun a ha=>by simp[arF]at ha,fun _=>⟨rfl,rfl⟩,fun R hR => .inl hR,fun p hp=>by cases hp⟩
 |(c,G)::r,D,b,hI,hG=>by
  have hGG:=hG (c,G) (by simp);obtain⟨D1,M1⟩:=ih D b G hI hGG;obtain⟨D2,M2⟩:=zHo ih r D1 (stF f b G).1 M1.inv (fun p hp=>hG p (by simp[hp]));have hlt:(stF f b G).2<D1.length:=(List.getElem?_eq_some_iff.1 M1.num).1;refine⟨D2,?_⟩;rw[arF];refine⟨M2.inv,M1.ext.trans M2.ext,?_,fun a ha=>?_,fun h=>?_,fun R hR=>?_,fun p hp R hR=>?_⟩
  · have h2:=M2.outs
    simp only[Fm.outs,List.map_cons]at h2 ⊢;rw[h2,zKy M2.ext hlt,M1.num,Option.getD_some,zDl];congr 3;omega
  · rcases List.mem_cons.1 ha with rfl|ha
    · exact Nat.lt_of_lt_of_le hlt M2.ext.length_le
    · exact M2.to a ha
  · obtain⟨i,hi⟩:=List.mem_iff_getElem?.1 (h (c,G) (by simp))
    obtain⟨e1,e2⟩:=M1.old i hi;subst e2;(obtain⟨e3,e4⟩:=M2.old fun p hp=>h p (by simp[hp]));exact⟨by simp only;rw[e3,e1],e4⟩
  · rcases M2.sub R hR with h|⟨p,hp,h⟩
    · rcases M1.sub R h with h|h
      · exact .inl h
      · exact .inr ⟨(c,G),by simp,h⟩
    · exact .inr ⟨p,by simp[hp],h⟩
  · rcases List.mem_cons.1 hp with rfl|hp
    · exact M2.ext.subset (M1.all R hR)
    · exact M2.all p hp R hR
theorem zDr{f:Nat}{S:List En}(h:Good (f+1) S):∀p∈grp (zAk S),Good f p.2:=fun p hp=>by
 obtain⟨h0,hr,hl⟩:=h;obtain⟨h1,h2⟩:=zB7 hr;have hsub:∀e∈zAk S,e∈S:=fun e he=>by
  cases S with
  |nil=>exact he
  |cons x r=>
   obtain⟨a,n⟩:=x;cases a with
   |nil=>exact .tail _ he
   |cons c t=>exact he
 refine⟨zJw _ _ (Nat.le_refl _) p hp,zHf _ _ (Nat.le_refl _) h2 h1 p hp,fun e he=>?_⟩;have:=hl _ (hsub _ (zGu h2 hp he));simp only[pre,List.length_cons]at this;omega
theorem zGw(S:List En)(arcs:List Arc):zAm (-least S) S=fins ⟨zDg S,zC1 S,arcs⟩++zAm (-least S) (zAk S):=by
 cases S with
 |nil=>rfl
 |cons e r=>
  obtain⟨x,n⟩:=e;cases x with
  |nil=>simp only[zDg,zC1,fins,zAk,zAm,if_true,List.map_cons,List.cons_append,List.nil_append,Int.sub_eq_add_neg]
  |cons c t=>rfl
theorem zH3{D:List (List En)}{arcs:List Arc}{gs:List (Int×List En)}{n:Int}(h:outs D arcs=gs.map fun p=>(p.1,zAm n p.2))(hp:gs.Pairwise fun p q=>p.1<q.1):arcs.Pairwise fun a b=>a.label<b.label:=by
 have h2:(outs D arcs).map (·.1)=gs.map (·.1):=by rw[h,List.map_map];rfl
 have h3:(outs D arcs).map (·.1)=arcs.map (·.label):=by unfold outs;rw[List.map_map];rfl
 rw[h3]at h2;have h4:(gs.map (·.1)).Pairwise (·<·):=by rw[List.pairwise_map];exact hp
 rw[←h2,List.pairwise_map]at h4;exact h4
theorem zCr:∀(f:Nat) (D:List (List En)) (b:List St) (S:List En),Inv D b→Good f S→∃D',Mkd D S b (stF f b S) D'
 |0,_,_,S,_,h=>by
  obtain⟨h0,_,h2⟩:=h;cases S with
  |nil=>exact absurd rfl h0
  |cons e r=>exact absurd (h2 e (by simp)) (by omega)
 |f+1,D,b,S,hI,hG=>by
  obtain⟨hr1,hr2⟩:=zB7 hG.2.1;have hgg:=zDr hG;have hfl:=zEv _ (zAk S) (Nat.le_refl _) hr2;have hlab:=(zEt _ (zAk S) (Nat.le_refl _) hr2 hr1).1;obtain⟨D1,M⟩:=zHo (base:=least S) (zCr f) (grp (zAk S)) D b hI hgg;rw[stF];generalize arF (stF f) (least S) b (grp (zAk S))=q at M;obtain⟨b1,arcs⟩:=q;simp only at M ⊢;obtain⟨s,hs⟩:∃s:St,s=⟨zDg S,zC1 S,arcs⟩:=⟨_,rfl⟩;rw[←hs];have hcan:Canon D1 s:=by
   rw[hs];refine⟨zH3 M.outs hlab,M.to,fun h=>?_⟩;cases S with
   |nil=>rfl
   |cons e r=>
    obtain⟨x,n⟩:=e;cases x with
    |nil=>cases h
    |cons c t=>rfl
  have hexp:exp D1 s=zAr S:=by
   rw[exp,zAr,zGw S arcs,hs,M.outs,←zGv,hfl]
  have hlen:D1.length=b1.length:=M.inv.len;have hold:∀i,D[i]?=some (zAr S)→b1=b∧D1=D∧b[i]?=some s:=fun i hi=>by
   have hil:=(List.getElem?_eq_some_iff.1 hi).1;obtain⟨t,ht⟩:∃t,b[i]?=some t:=⟨b[i]'(by have:=hI.len;omega),List.getElem?_eq_getElem _⟩;obtain⟨e1,e2,ct⟩:=hI.row i t ht;rw[hi]at e1;have e1':zAr S=exp D t:=Option.some.inj e1;obtain⟨g1,g2⟩:=zLg hI.lv ct;rw[←e1',zAr,zG4,zIc]at g2;have hall:∀p∈grp (zAk S),zAr p.2∈D:=fun p hp=>by
    (have hp':(p.1,zAm (-least S) p.2)∈outs D t.arcs:=by rw[←g2];exact List.mem_map.2 ⟨p,hp,rfl⟩);obtain⟨a,ha,hae⟩:=List.mem_map.1 hp';have hal:=ct.to a ha;rw[List.getElem?_eq_getElem hal]at hae;simp only[Option.getD_some,Prod.mk.injEq]at hae;have hv:=hI.lv _ (List.getElem_mem hal);have:zAr p.2=D[a.to]:=by
     rw[←zE7 (-least S) (hgg p hp).1,←hae.2,zE7 _ hv.1,level_of hv.2]
    rw[this];exact List.getElem_mem _
   obtain⟨h1,h2⟩:=M.old hall;refine⟨h1,h2,?_⟩;rw[h2]at hexp hcan;rw[ht,zWz hI.nd hI.lv ct hcan (e1'.symm.trans hexp.symm)]
  unfold zDc;by_cases hmem:s∈b1
  · rw[if_pos hmem]
    have hidx:=List.idxOf_lt_length_of_mem hmem;(have hat:b1[b1.idxOf s]?=some s:=by rw[List.getElem?_eq_getElem hidx,List.getElem_idxOf]);obtain⟨e1,_,_⟩:=M.inv.row _ s hat;rw[hexp]at e1;refine⟨D1,M.inv,M.ext,e1,fun i hi=>?_,fun R hR=>?_,fun R hR=>?_⟩
    · obtain⟨h1,h2,h3⟩:=hold i hi
      refine⟨?_,h2⟩;subst h1;rw[h2]at e1;have hi2:=(List.getElem?_eq_some_iff.1 hi).1;have hi3:=(List.getElem?_eq_some_iff.1 e1).1;have:b1.idxOf s=i:=zGp hI.nd hi3 hi2 (by rw[e1,hi]);rw[this]
    · rcases M.sub R hR with h|⟨p,hp,h⟩
      · exact .inl h
      · exact .inr (.step hp h)
    · cases hR with
      |here=>exact List.mem_of_getElem? e1
      |step hp h=>exact M.all _ hp R h
  · rw[if_neg hmem]
    have hnew:zAr S∉D1:=fun h=>by
     obtain⟨j,hj⟩:=List.mem_iff_getElem?.1 h;have hjl:=(List.getElem?_eq_some_iff.1 hj).1;obtain⟨t,ht⟩:∃t,b1[j]?=some t:=⟨b1[j]'(by omega),List.getElem?_eq_getElem _⟩;obtain⟨e1,_,ct⟩:=M.inv.row j t ht;rw[hj]at e1;have:s=t:=zWz M.inv.nd M.inv.lv hcan ct (hexp.trans (Option.some.inj e1));exact hmem (this▸List.mem_of_getElem? ht)
    have hpre:D1<+:D1++[zAr S]:=List.prefix_append _ _;refine⟨D1++[zAr S],⟨by simp[hlen],fun i t hi=>?_,?_,fun R hR=>?_⟩,M.ext.trans hpre,?_,fun i hi=>?_,fun R hR=>?_,fun R hR=>?_⟩
    · by_cases hib:i<b1.length
      · rw[List.getElem?_append_left hib]at hi
        obtain⟨e1,e2,ct⟩:=M.inv.row i t hi;refine⟨?_,e2,ct.pre hpre⟩;rw[zKy hpre (by omega),e1,zIg hpre ct.to]
      · rw[List.getElem?_append_right (by omega)]at hi
        cases hi0:i-b1.length with
        |zero=>
         rw[hi0]at hi;simp only[List.getElem?_cons_zero,Option.some.injEq]at hi;subst hi;refine⟨?_,fun a ha=>by have:=hcan.to a ha;omega,hcan.pre hpre⟩;rw[zIg hpre hcan.to,hexp,List.getElem?_append_right (by omega),hlen,hi0];rfl
        |succ j=>rw[hi0]at hi;simp at hi
    · rw[List.nodup_append]
      exact⟨M.inv.nd,by simp,fun a ha c hc=>by rw[List.mem_singleton.1 hc];exact fun e=>hnew (e▸ha)⟩
    · rcases List.mem_append.1 hR with h|h
      · exact M.inv.lv R h
      · rw[List.mem_singleton.1 h]
        exact⟨zK9.2 hG.1,zH9 hG.1⟩
    · rw[List.getElem?_append_right (by omega),hlen]
      simp
    · obtain⟨h1,_,h3⟩:=hold i hi
      rw[h1]at hmem;exact absurd (List.mem_of_getElem? h3) hmem
    · rcases List.mem_append.1 hR with h|h
      · rcases M.sub R h with h|⟨p,hp,h⟩
        · exact .inl h
        · exact .inr (.step hp h)
      · rw[List.mem_singleton.1 h]
        exact .inr (.here S)
    · cases hR with
      |here=>simp
      |step hp h=>exact List.mem_append_left _ (M.all _ hp R h)
end Fm
section
open Go.RowKit Nums Pm
theorem drop_at(l:List Pr)(k:Nat)(x:Pr)(h:l[k]?=some x):l.drop k=x::l.drop (k+1):=by
 obtain⟨hk,rfl⟩:=List.getElem?_eq_some_iff.1 h;exact List.drop_eq_getElem_cons hk
theorem PRow.form{w:World}{v:Value}{l:List Pr}(h:PRow w v l):∃ad cap,v = .slice ad l.length cap:=by
 obtain⟨ad,cap,e,_⟩:=h;exact⟨ad,cap,e⟩
def zFl:Option Pr→Pr→Bool
 |none,_=>true
 |some p,x=>zAa p.1 x.1
def oneF(p:Option Pr)(x:Pr):Int:=if zAp x.1.data.toList=false then 71 else if x.2<1∨1048576<x.2 then 72 else if zFl p x=false then 73 else 0
def zBa(p:Option Pr):List Pr→Int
 |[]=>0
 |x::r=>if oneF p x=0 then zBa (some x) r else oneF p x
def zA4(l:List Pr):Nat→Option Pr
 |0=>none
 |k+1=>l[k]?
theorem zF0{l:List Pr}{k:Nat}{x:Pr}(hx:l[k]?=some x){e:Int}(h:oneF (zA4 l k) x=e)(he:e≠0):zBa (zA4 l k) (l.drop k)=e:=by rw[drop_at l k x hx,zBa,h,if_neg he]
theorem zJ0{l:List Pr}{k:Nat}{x:Pr}(hx:l[k]?=some x)(h:oneF (zA4 l k) x=0):zBa (zA4 l k) (l.drop k)=zBa (zA4 l (k+1)) (l.drop (k+1)):=by
 rw[drop_at l k x hx,zBa,h,if_pos rfl,zA4,hx]
theorem zWy{l:List Pr}{k:Nat}(h:l.length≤k):zBa (zA4 l k) (l.drop k)=0:=by rw[List.drop_eq_nil_of_le h];rfl
theorem one_word{p:Option Pr}{x:Pr}(h:zAp x.1.data.toList=false):oneF p x=71:=by simp[oneF,h]
theorem one_low{p:Option Pr}{x:Pr}(hw:zAp x.1.data.toList=true)(h:x.2<1):oneF p x=72:=by simp[oneF,h,hw]
theorem one_high{p:Option Pr}{x:Pr}(hw:zAp x.1.data.toList=true)(h:1048576<x.2):oneF p x=72:=by simp[oneF,h,hw]
theorem one_late{p:Option Pr}{x:Pr}(hw:zAp x.1.data.toList=true)(h1:¬x.2<1)(h2:¬1048576<x.2)(h:zFl p x=false):oneF p x=73:=by simp[oneF,h,hw,h1,h2]
theorem zU8{p:Option Pr}{x:Pr}(hw:zAp x.1.data.toList=true)(h1:¬x.2<1)(h2:¬1048576<x.2)(h:zFl p x=true):oneF p x=0:=by simp[oneF,h,hw,h1,h2]
def Sm(l:List Pr):Prop:=∀x∈l,x.1.size≤9223372036854775807
theorem Sm.at{l:List Pr}(h:Sm l){k:Nat}{x:Pr}(hx:l[k]?=some x):x.1.size≤9223372036854775807:=h x (List.mem_of_getElem? hx)
set_option maxHeartbeats 4000000 in
theorem zI5(w:World)(v:Value)(l:List Pr)(h:PRow w v l)(hl:l.length≤9223372036854775807)(hsm:Sm l)(ht:Tabs w):
 Calls Tryz.prog 62 #[v] w fun e w'=>e = .returned (.int .i64 (zBa none l))∧Below w.heap.size w w':=by
 obtain⟨ad,cap,rfl⟩:=h.form;have HR:Hid (PRow w (.slice ad l.length cap) l):=h;obtain⟨n,hn⟩:∃n,l.length=n:=⟨_,rfl⟩;have HN:Hid (l.length=n):=hn;have HS:Hid (Sm l):=hsm;have HT:Hid (Tabs w):=ht;rw[hn]at HR hl;obtain⟨F,hF⟩:∃F,zBa none l=F:=⟨_,rfl⟩;have HF:Hid (zBa none l=F):=hF;clear h hsm ht;rw[hn,hF];clear hn hF;go_enter Tryz.func62,Tryz.ntmps62;go_wp2
 go_loopg [3,4,7] n (fun g _ _ s10 wr=>∃(k:Nat),s10 = .int .i64 k∧k≤n∧n-k≤g∧Hid (Below w.heap.size w wr)∧Hid (zBa (zA4 l k) (l.drop k)=F))
 case atStart=>exact⟨0,rfl,Nat.zero_le _,by omega,Below.refl _ _,HF⟩
 case round=>
  obtain⟨k,rfl,hk,hg,HB,HK⟩:=hrel;by_cases hlt:k<n
  · have hltz:(k:Int)<(n:Int):=by omega
    obtain⟨x,hx⟩:∃x,l[k]?=some x:=⟨l[k]'(by have:=HN.out;omega),List.getElem?_eq_getElem _⟩;obtain⟨b,off,rfl,hb,hcell⟩:=(HR.out.below HB.out).at (by omega);obtain⟨c0,c1⟩:=hcell k x hx;have HX:Hid (l[k]?=some x):=hx;obtain⟨X,hXe⟩:∃X:Obj,X = .cells #[.string x.1,.int .i64 x.2] 64:=⟨_,rfl⟩;(have hw:=fun(W:World) (ht:Tabs W)=>zB5 x.1 W ht (HS.out.at hx));(have HTA:Hid (∀o,Tabs (wr.alloc o)):=fun o=>(HT.out.below HB.out).below ((Below.refl _ wr).alloc (Nat.le_refl _) o));(have HBA:Hid (∀o q,Below w.heap.size w ((wr.alloc o).drewN q)):=fun o q=>belowN (HB.out.alloc (by have:=HB.out.size;omega) o) q);clear hXe;cases hwd:zAp x.1.data.toList
    · have HE:Hid (F=71):=by show _=_;rw[←HK.out];exact zF0 hx (one_word hwd) (by decide)
      rw[hwd]at hw;clear hcell hx hwd;go_wp2_with (go_at_call 56;refine(hw _ (HTA.out _)).mono ?_;rintro e w2 ⟨rfl,q,rfl⟩);go_ret;exact⟨by rw[HE.out];rfl,HBA.out _ _⟩
    · rw[hwd]at hw
      by_cases hlo:x.2<1
      · have HE:Hid (F=72):=by show _=_;rw[←HK.out];exact zF0 hx (one_low hwd hlo) (by decide)
        clear hcell hx hwd;go_wp2_with (go_at_call 56;refine(hw _ (HTA.out _)).mono ?_;rintro e w2 ⟨rfl,q,rfl⟩);go_ret;exact⟨by rw[HE.out];rfl,HBA.out _ _⟩
      · by_cases hhi:1048576<x.2
        · have HE:Hid (F=72):=by show _=_;rw[←HK.out];exact zF0 hx (one_high hwd hhi) (by decide)
          clear hcell hx hwd;go_wp2_with (go_at_call 56;refine(hw _ (HTA.out _)).mono ?_;rintro e w2 ⟨rfl,q,rfl⟩);go_ret;exact⟨by rw[HE.out];rfl,HBA.out _ _⟩
        · have HWD:Hid (zAp x.1.data.toList=true∧¬x.2<1∧¬1048576<x.2):=⟨hwd,hlo,hhi⟩
          clear hwd;by_cases hk0:k=0
          · have HK2:Hid (zBa (zA4 l (k+1)) (l.drop (k+1))=F):=by show _=_;rw[←HK.out];exact(zJ0 HX.out (zU8 HWD.out.1 HWD.out.2.1 HWD.out.2.2 (by rw[hk0];rfl))).symm
            (have hk0z:¬(0:Int)<(k:Int):=by omega);have hgd:decide (0<k)=false:=decide_eq_false (by omega);(have HF2:Hid (∀(W:World) (q:Nat),W=(wr.alloc (.cells #[.string x.1,.int .i64 x.2] 64)).drewN q→W.cell? ⟨wr.heap.size,0,none⟩=some (.string x.1)∧W.cell? ⟨wr.heap.size,1,none⟩=some (.int .i64 x.2)∧W.cell? ⟨b,off+k*2,none⟩=some (.string x.1)∧Hid (Below w.heap.size w W)):=fun W q e=>by subst e;exact⟨by simp,by simp,by have:=((Below.refl _ wr).alloc (Nat.le_refl _) (.cells #[.string x.1,.int .i64 x.2] 64)).cell (p:=⟨b,off+k*2,none⟩) hb;exact this.trans c0,HBA.out _ _⟩);clear hcell hx hk0;go_wp2_with (go_at_call 56;refine(hw _ (HTA.out _)).mono ?_;rintro e w2 ⟨rfl,q,hq⟩;obtain⟨q0,q1,q2,HBq⟩:=HF2.out _ _ hq;clear hq);go_quiet (fail);go_wp2;have HB2:Hid (Below w.heap.size w _):=belowN HBq.out nq;go_roundg (n-(k+1));(case measure=>omega);case rel=>exact⟨k+1,by go_num,by omega,Nat.le_refl _,HB2,HK2⟩
          · obtain⟨kp,hkp⟩:∃kp,kp+1=k:=⟨k-1,by omega⟩
            (have hk0z:(0:Int)<(k:Int):=by omega);have hgd:decide (0<k)=true:=decide_eq_true (by omega);(have ekp:(k:Int)-1=(kp:Int):=by omega);obtain⟨y,hy⟩:∃y,l[kp]?=some y:=⟨l[kp]'(by have:=HN.out;omega),List.getElem?_eq_getElem _⟩;obtain⟨d0,d1⟩:=hcell kp y hy;(have rkp:IntKind.i64.wrap (kp:Int)=(kp:Int):=by rw[IntKind.wrap_i64];omega);(have pkp:(0:Int)≤(kp:Int):=by omega);(have bkp:(kp:Int)<(n:Int):=by omega);(have tkp:(kp:Int).toNat=kp:=by omega);(have hls:=fun W=>zDa y.1 x.1 W);(have HF2:Hid (∀(W:World) (q:Nat),W=(wr.alloc (.cells #[.string x.1,.int .i64 x.2] 64)).drewN q→W.cell? ⟨wr.heap.size,0,none⟩=some (.string x.1)∧W.cell? ⟨wr.heap.size,1,none⟩=some (.int .i64 x.2)∧W.cell? ⟨b,off+kp*2,none⟩=some (.string y.1)∧Hid (Below w.heap.size w W)):=fun W q e=>by subst e;exact⟨by simp,by simp,by have:=((Below.refl _ wr).alloc (Nat.le_refl _) (.cells #[.string x.1,.int .i64 x.2] 64)).cell (p:=⟨b,off+kp*2,none⟩) hb;exact this.trans d0,HBA.out _ _⟩);cases hyx:zAa y.1 x.1
            · have HE:Hid (F=73):=by show _=_;rw[←HK.out];exact zF0 HX.out (one_late HWD.out.1 HWD.out.2.1 HWD.out.2.2 (by rw[←hkp,zA4,hy];exact hyx)) (by decide)
              rw[hyx]at hls;clear hcell hx hkp hy hyx hk0;go_wp2_with (go_at_call 56;refine(hw _ (HTA.out _)).mono ?_;rintro e w2 ⟨rfl,q,hq⟩;obtain⟨q0,q1,q2,HBq⟩:=HF2.out _ _ hq;clear hq);go_quiet (first|(go_at_call 100;refine Calls.quiet_of_same (hls _)));go_wp2;go_ret;exact⟨by rw[HE.out];rfl,belowN HBq.out nq⟩
            · have HK2:Hid (zBa (zA4 l (k+1)) (l.drop (k+1))=F):=by show _=_;rw[←HK.out];exact(zJ0 HX.out (zU8 HWD.out.1 HWD.out.2.1 HWD.out.2.2 (by rw[←hkp,zA4,hy];exact hyx))).symm
              rw[hyx]at hls;clear hcell hx hkp hy hyx hk0;go_wp2_with (go_at_call 56;refine(hw _ (HTA.out _)).mono ?_;rintro e w2 ⟨rfl,q,hq⟩;obtain⟨q0,q1,q2,HBq⟩:=HF2.out _ _ hq;clear hq);go_quiet (first|(go_at_call 100;refine Calls.quiet_of_same (hls _)));go_wp2;have HB2:Hid (Below w.heap.size w _):=belowN HBq.out nq;go_roundg (n-(k+1));(case measure=>omega);case rel=>exact⟨k+1,by go_num,by omega,Nat.le_refl _,HB2,HK2⟩
  · have hltz:¬(k:Int)<(n:Int):=by omega
    (have HE:Hid (F=0):=by show _=_;rw[←HK.out];exact zWy (by have:=HN.out;omega));go_wp2;go_ret;exact⟨by rw[HE.out];rfl,HB.out⟩
end
section
open Go.RowKit Nums Fm
def zC2(x:Pr):En:=((rs x.1.data.toList).getD [],x.2)
def ents(l:List Pr):List En:=l.map zC2
theorem Made.runes{B:Nat}{w:World}{v:Value}{xs:List Int}(h:Made B w v xs):RunesAt w.heap.size w v xs:=by
 obtain⟨hl,⟨e,h0⟩|⟨g,cap,cur,rfl,h1,hh,h3,h4,h5,h6⟩⟩:=h
 · exact⟨none,0,by rw[e,h0],fun h=>by omega⟩
 · refine⟨_,cap,rfl,fun _=>⟨g,0,rfl,(Array.getElem?_eq_some_iff.1 hh).1,fun i x hi=>?_⟩⟩
   (have e:(xs.map (Value.int .i32))[i]?=some (.int .i32 x):=by rw[List.getElem?_map,hi];rfl);rw[←h6,List.getElem?_take]at e
   split at e
   · simp only[World.cell?,hh,Nat.zero_add]
     simpa using e
   · cases e
theorem Made.kept{B:Nat}{w w':World}{v u:Value}{xs:List Int}{T:TypeId}{k B':Nat}{xss:List (List Value)}(h:Made B w v xs)(ho:GOwn T k B' w u xss)(hT:T≠21)(hg:w.grownBy w' u.ownBlock):Made B w' v xs:=by
 refine World.ownsRow.kept h hg ?_;by_cases e:v.ownBlock=none
 · exact .inl e
 · refine .inr fun e2=>?_
   obtain⟨g,hgv⟩:=Option.ne_none_iff_exists'.1 e;obtain⟨_,cur,h1⟩:=ho.block (e2.symm.trans hgv);obtain⟨_,⟨ev,_⟩|⟨g',cap,cur',rfl,_,h2,_⟩⟩:=h
   · rw[ev]at hgv;cases hgv
   · simp only[Value.ownBlock,Option.some.injEq]at hgv
     subst hgv;rw[h1]at h2;simp only[Option.some.injEq,Obj.cells.injEq]at h2;exact hT h2.2.1
structure EntsAt(B:Nat)(w:World)(v:Value)(es:List En):Prop where
 ex:∃xss:List (List Value),GOwn 167 2 B w v xss∧xss.length=es.length∧∀(i:Nat) (e:En),es[i]?=some e→∃u,xss[i]?=some [u,.int .i64 e.2]∧Made B w u e.1
theorem EntsAt.row{B:Nat}{w:World}{v:Value}{es:List En}(h:EntsAt B w v es):ERow w.heap.size w v es:=by
 obtain⟨xss,ho,hl,hx⟩:=h;by_cases h0:0<xss.length
 · obtain⟨g,cap,rfl,hg,_,hc,hcell⟩:=ho.cell h0
   refine⟨_,cap,by rw[hl],by omega,fun _=>⟨g,0,rfl,hg,fun i e hi=>?_⟩⟩;obtain⟨u,hu,hm⟩:=hx i e hi;exact⟨u,by rw[Nat.zero_add];exact hcell i 0 _ u hu rfl,by rw[Nat.zero_add];exact hcell i 1 _ _ hu rfl,hm.runes⟩
 · obtain⟨ad,cap,rfl,hc⟩:=ho.shape
   exact⟨ad,cap,by rw[hl],by omega,fun h=>absurd h (by omega)⟩
theorem Made.shape{B:Nat}{w:World}{v:Value}{xs:List Int}(h:Made B w v xs):∃ad cap,v = .slice ad xs.length cap:=by
 obtain⟨hl,⟨e,h0⟩|⟨g,cap,cur,rfl,_⟩⟩:=h
 · exact⟨none,0,by rw[e,h0]⟩
 · exact⟨_,cap,rfl⟩
theorem zW1{l:List Pr}{k:Nat}{x:Pr}(h:l[k]?=some x):ents (l.take (k+1))=ents (l.take k)++[zC2 x]:=by
 rw[List.take_add_one,h];simp[ents]
theorem zCd(l:List Pr):(ents l).length=l.length:=by simp[ents]
def Wd(l:List Pr):Prop:=∀x∈l,∃xs,rs x.1.data.toList=some xs∧xs.length≤24∧x.1.size≤96
set_option maxHeartbeats 1000000 in
theorem zO2(w:World)(v:Value)(l:List Pr)(h:PRow w v l)(hl:l.length≤4096)(hwd:Wd l)(ht:Tabs w):
 Calls Tryz.prog 63 #[v] w fun e w'=>∃v',e = .returned v'∧ERow w'.heap.size w' v' (ents l)∧Below w.heap.size w w':=by
 obtain⟨ad,cap,rfl⟩:=h.form;have HR:Hid (PRow w (.slice ad l.length cap) l):=h;obtain⟨n,hn⟩:∃n,l.length=n:=⟨_,rfl⟩;have HN:Hid (l.length=n):=hn;have HS:Hid (Wd l):=hwd;have HT:Hid (Tabs w):=ht;rw[hn]at HR hl;clear h hwd ht;rw[hn];clear hn;go_enter Tryz.func63,Tryz.ntmps63;go_wp2
 go_loopg [3,5,6,7,10] n (fun g s3 _ _ _ s10 wr=>∃(k:Nat),s10 = .int .i64 k∧k≤n∧n-k≤g∧Hid (Below w.heap.size w wr)∧Hid (EntsAt w.heap.size wr s3 (ents (l.take k))))
 case atStart=>exact⟨0,rfl,Nat.zero_le _,by omega,Below.refl _ _,⟨[],GOwn.nil _ _ _ _,rfl,fun i e hi=>by simp[ents]at hi⟩⟩
 case round=>
  obtain⟨k,rfl,hk,hg,HB,HK⟩:=hrel;by_cases hlt:k<n
  · have hltz:(k:Int)<(n:Int):=by omega
    obtain⟨x,hx⟩:∃x,l[k]?=some x:=⟨l[k]'(by have:=HN.out;omega),List.getElem?_eq_getElem _⟩;obtain⟨b,off,rfl,hb,hcell⟩:=(HR.out.below HB.out).at (by omega);obtain⟨c0,c1⟩:=hcell k x hx;obtain⟨xs,hxs,hx24,hx96⟩:=HS.out x (List.mem_of_getElem? hx);(have HE:Hid (ents (l.take (k+1))=ents (l.take k)++[(xs,x.2)]):=by show _=_;rw[zW1 hx,zC2,hxs];rfl);have HX:Hid (rs x.1.data.toList=some xs):=hxs;have HRN:Hid (∀W,Tabs W→Calls Tryz.prog 71 #[.string x.1] W fun e w'=>∃v,Below W.heap.size W w'∧e = .returned (.tuple #[v,.bool true])∧Made W.heap.size w' v xs):=fun W hW=>by
     refine(zF9 x.1 W hW (by omega) (zDn hxs (by omega))).mono ?_;rintro e w' ⟨v,hb,⟨h1,_⟩|⟨ys,h1,h2,h3⟩⟩
     · rw[HX.out]at h1;cases h1
     · rw[HX.out]at h1;cases h1;exact⟨v,hb,h2,h3⟩
    (have HTA:Hid (∀o,Tabs (wr.alloc o)):=fun o=>(HT.out.below HB.out).below ((Below.refl _ wr).alloc (Nat.le_refl _) o));(have HA:Hid (∀o,Below wr.heap.size wr (wr.alloc o)∧(wr.alloc o).cell? ⟨b,off+k*2,none⟩=some (.string x.1)):=fun o=>⟨(Below.refl _ wr).alloc (Nat.le_refl _) o,(((Below.refl _ wr).alloc (Nat.le_refl _) o).cell (p:=⟨b,off+k*2,none⟩) hb).trans c0⟩);clear hcell hx hxs;(go_upto_region 5 with fail);(have hcA:(wr.alloc (.cells #[.string x.1,.int .i64 x.2] 64)).cell? ⟨wr.heap.size,1,none⟩=some (.int .i64 x.2):=by simp);(have hltA:wr.heap.size<(wr.alloc (.cells #[.string x.1,.int .i64 x.2] 64)).heap.size:=by simp);(go_upto_region 6 with(go_at_call 71;refine(HRN.out _ (HTA.out _)).mono ?_;rintro e w2 ⟨v6,hb2,rfl,hm6⟩));obtain⟨xss,ho,hxl,hxe⟩:=HK.out.ex;have hb20:Below wr.heap.size wr w2:=(HA.out _).1.trans (hb2.mono (HA.out _).1.size);have c21:w2.cell? ⟨wr.heap.size,1,none⟩=some (.int .i64 x.2):=(hb2.cell (p:=⟨wr.heap.size,1,none⟩) hltA).trans hcA;have ho2:GOwn 167 2 w.heap.size w2 u3 xss:=ho.below hb20;have hsz:w.heap.size≤wr.heap.size:=HB.out.size;have HO2:Hid (GOwn 167 2 w.heap.size w2 u3 xss):=ho2;have HM:Hid (∀(i:Nat) (e:En),(ents (l.take k))[i]?=some e→∃u,xss[i]?=some [u,.int .i64 e.2]∧Made w.heap.size w2 u e.1):=fun i e hi=>by
     obtain⟨u,h1,h2⟩:=hxe i e hi;exact⟨u,h1,h2.below hb20⟩
    have HM6:Hid (Made w.heap.size w2 v6 xs):=by
     obtain⟨hl,hn|⟨g,cap,cur,rfl,h1,h2⟩⟩:=hm6
     · exact⟨hl,.inl hn⟩
     · exact⟨hl,.inr ⟨g,cap,cur,rfl,by have:=(HA.out (.cells #[.string x.1,.int .i64 x.2] 64)).1.size;omega,h2⟩⟩
    obtain⟨ra,rc,rfl⟩:=hm6.shape;have HB2:Hid (Below w.heap.size w w2):=HB.out.trans (hb20.mono HB.out.size);(have HL:Hid (xss.length=k):=by show _=_;rw[hxl,zCd,List.length_take];have:=HN.out;omega);clear ho ho2 hxe hxl hm6 hcA hltA hb2 c0 c1;go_wp2_with (at_builtin;refine zEz rtyE (by rfl) _ _ [.slice ra xs.length rc,.int .i64 x.2] _ rfl w.heap.size _ _ _ _ rfl HO2.out rfl rfl ⟨rfl,by simp[Value.oneCell']⟩ (by have:=HL.out;omega) HB2.out.size ?_);intro v7 w7 ho7 hb7 hg7;have HB7:Hid (Below w.heap.size w w7):=HB2.out.trans hb7;have HK7:Hid (EntsAt w.heap.size w7 v7 (ents (l.take (k+1)))):=by
     show EntsAt _ _ _ _;have hA2:Below w2.heap.size w2 (w2.alloc (.cells [.slice ra xs.length rc,.int .i64 x.2].toArray 167)):=(Below.refl _ w2).alloc (Nat.le_refl _) _;(have hk7:∀{u:Value} {ys:List Int},Made w.heap.size w2 u ys→Made w.heap.size w7 u ys:=fun h=>(h.below hA2).kept (HO2.out.below hA2) (by decide) hg7);rw[HE.out];refine⟨xss++[[.slice ra xs.length rc,.int .i64 x.2]],ho7,by simp[HL.out,zCd];have:=HN.out;omega,fun i e hi=>?_⟩;(have hlen:(ents (l.take k)).length=xss.length:=by rw[zCd,HL.out,List.length_take];have:=HN.out;omega);by_cases hik:i<xss.length
     · rw[List.getElem?_append_left (by omega)]at hi ⊢
       obtain⟨u,h1,h2⟩:=HM.out i e hi;exact⟨u,h1,hk7 h2⟩
     · rw[List.getElem?_append_right (by omega)]at hi ⊢
       rw[hlen]at hi;cases hi0:i-xss.length with
       |zero=>
        rw[hi0]at hi;simp only[List.getElem?_cons_zero,Option.some.injEq]at hi;subst hi;exact⟨_,rfl,hk7 HM6.out⟩
       |succ m=>rw[hi0]at hi;simp at hi
    clear ho7 hb7 hg7 HM HM6 HO2;go_wp2_with fail;go_roundg (n-(k+1));(case measure=>omega);case rel=>exact⟨k+1,by go_num,by omega,Nat.le_refl _,HB7,HK7⟩
  · have hltz:¬(k:Int)<(n:Int):=by omega
    have HE:Hid (l.take k=l):=List.take_of_length_le (by have:=HN.out;omega);go_wp2;go_ret;exact⟨_,rfl,by have:=HK.out.row;rwa [HE.out]at this,HB.out⟩
end
section
open Go.RowKit Nums
theorem Made.row{B:Nat}{w:World}{v:Value}{xs:List Int}(h:Made B w v xs):Row w v xs:=by
 obtain⟨hl,hn|⟨g,cap,cur,rfl,hb,hg,h1,h2,h3,h4⟩⟩:=h
 · obtain⟨rfl,h0⟩:=hn
   refine⟨none,0,by rw[h0],fun h=>by omega⟩
 · refine⟨_,_,rfl,fun _=>⟨g,0,rfl,fun i hi=>?_⟩⟩
   have hc:cur[i]?=some (.int .i32 (xs.getD i 0)):=by
    (have e:(cur.toList.take (xs.length*1))[i]?=(xs.map (Value.int .i32))[i]?:=by rw[h4]);rw[List.getElem?_take,if_pos (by omega)]at e;rw[←Array.getElem?_toList,e,List.getElem?_map,List.getElem?_eq_getElem hi];simp[List.getD_eq_getElem?_getD,List.getElem?_eq_getElem hi]
   simp only[World.cell?,hg,Nat.zero_add];simpa using hc
theorem Row.below{w w':World}{v:Value}{xs:List Int}(h:Row w v xs)(hb:Below w.heap.size w w'):Row w' v xs:=by
 obtain⟨ao,cap,rfl,hc⟩:=h;refine⟨ao,cap,rfl,fun h0=>?_⟩;obtain⟨b,off,rfl,hd⟩:=hc h0;exact⟨b,off,rfl,fun i hi=>(hb.cell (p:=⟨b,off+i,none⟩) (zAq (hd i hi))).trans (hd i hi)⟩
end
section
open Go.RowKit Nums
attribute [local go_sem ↓] Go.wp_at_zero Go.wp_at_succ
set_option maxHeartbeats 400000 in
theorem Rune_any(r:Int)(w:World):Calls Tryz.prog 149 #[.int .i64 r] w fun e w'=>e = .returned (.bool (isR r))∧w'=w:=by
 by_cases h0:0≤r
 · by_cases h1:r≤1114111
   · by_cases h2:r<55296
     · go_enter Tryz.func149,Tryz.ntmps149
       go_wp2;go_ret;exact⟨zCb (by first|(rw[zE2 (by omega)])|(rw[zEe (by omega)])),rfl⟩
     · by_cases h3:57343<r
       all_goals
        go_enter Tryz.func149,Tryz.ntmps149;go_wp2;go_ret;exact⟨zCb (by first|(rw[zE2 (by omega)])|(rw[zEe (by omega)])),rfl⟩
   · go_enter Tryz.func149,Tryz.ntmps149
     go_wp2;go_ret;exact⟨zCb (by first|(rw[zE2 (by omega)])|(rw[zEe (by omega)])),rfl⟩
 · go_enter Tryz.func149,Tryz.ntmps149
   go_wp2;go_ret;exact⟨zCb (by first|(rw[zE2 (by omega)])|(rw[zEe (by omega)])),rfl⟩
theorem zHl(w:World)(xs:List Int)(n:Nat)(hn:xs.length=n):
 (convert 68 9 (.slice (some ⟨w.heap.size,0,none⟩) n n)).run Tryz.prog (w.alloc (.cells (xs.map (Value.int .u8)).toArray 5)) = .ok (.string (strOfNums xs)) (w.alloc (.cells (xs.map (Value.int .u8)).toArray 5)):=by
 refine run_convert_bytes_arg _ 68 5 Tryz.underlying68 Tryz.underlying5 w.heap.size 0 n n xs hn (fun i hi=>?_) 9 Tryz.underlying9;rw[Nat.zero_add,World.cell?_alloc_new];subst hn;simp[List.getD_eq_getElem?_getD,List.getElem?_eq_getElem hi]
set_option maxHeartbeats 1000000 in
theorem zNv(r:Int)(w:World)(hr:isR r=true):Calls Tryz.prog 150 #[.int .i64 r] w fun e w'=>e = .returned (.string (strOfNums (wrI r)))∧Below w.heap.size w w':=by
 have hbd:=zWa hr;clear hr;by_cases a:r<128
 · have h:=zHl w [r] 1 rfl
   simp only[List.map]at h;have HW:Hid (wrI r=[r]):=wrI1 a;go_enter Tryz.func150,Tryz.ntmps150;go_wp2;go_ret;exact⟨by rw[HW.out];rfl,(Below.refl _ _).alloc (Nat.le_refl _) _⟩
 by_cases b:r<2048
 · have h:=zHl w [192+r/64,128+r%64] 2 rfl
   simp only[List.map]at h;have HW:Hid (wrI r=[192+r/64,128+r%64]):=wrI2 (by omega) b;go_enter Tryz.func150,Tryz.ntmps150;go_wp2;go_ret;exact⟨by rw[HW.out];rfl,(Below.refl _ _).alloc (Nat.le_refl _) _⟩
 by_cases c:r<65536
 · have h:=zHl w [224+r/4096,128+r/64%64,128+r%64] 3 rfl
   simp only[List.map]at h;have HW:Hid (wrI r=[224+r/4096,128+r/64%64,128+r%64]):=by
    show wrI r=_;rw[wrI3 (by omega) c,show r/64/64=r/4096 by omega]
   go_enter Tryz.func150,Tryz.ntmps150;go_wp2;go_ret;exact⟨by rw[HW.out];rfl,(Below.refl _ _).alloc (Nat.le_refl _) _⟩
 · have h:=zHl w [240+r/262144,128+r/4096%64,128+r/64%64,128+r%64] 4 rfl
   simp only[List.map]at h;have HW:Hid (wrI r=[240+r/262144,128+r/4096%64,128+r/64%64,128+r%64]):=by
    show wrI r=_;rw[wrI4 (by omega),show r/64/64/64=r/262144 by omega,show r/64/64=r/4096 by omega]
   go_enter Tryz.func150,Tryz.ntmps150;go_wp2;go_ret;exact⟨by rw[HW.out];rfl,(Below.refl _ _).alloc (Nat.le_refl _) _⟩
theorem zC4(s:ByteArray)(i:Nat)(h:i<s.size):((s[i]'h).toNat:Int)<256:=by have:=(s[i]'h).toNat_lt;omega
set_option maxHeartbeats 1000000 in
theorem zKp(s:ByteArray)(n:Nat)(w:World)(h1:1≤n)(h4:n≤4)(hn:n≤s.size)(hm:s.size≤9223372036854775807):
 Calls Tryz.prog 148 #[.string s,.int .i64 n] w fun e w'=>e = .returned (.int .i64 (sd s.data.toList n))∧w'=w:=by
 have HB:Hid (∀i (h:i<s.size),((s[i]'h).toNat:Int)=bt s.data.toList i):=zNm s;obtain rfl|rfl|rfl|rfl:n=1∨n=2∨n=3∨n=4:=by omega
 · have q0:=zC4 s 0 (by omega)
   go_enter Tryz.func148,Tryz.ntmps148;go_wp2;go_ret;exact⟨zBz (by rw[sd1,HB.out 0 (by omega)]),rfl⟩
 · have q0:=zC4 s 0 (by omega)
   have q1:=zC4 s 1 (by omega);go_enter Tryz.func148,Tryz.ntmps148;go_wp2;refine wp_loop_rounds 2 ?_;rw[rounds_succ];go_wp2;rw[rounds_succ];go_wp2;go_ret;exact⟨zBz (by rw[sd2,HB.out 0 (by omega),HB.out 1 (by omega)]),rfl⟩
 · have q0:=zC4 s 0 (by omega)
   have q1:=zC4 s 1 (by omega);have q2:=zC4 s 2 (by omega);go_enter Tryz.func148,Tryz.ntmps148;go_wp2;refine wp_loop_rounds 3 ?_;rw[rounds_succ];go_wp2;rw[rounds_succ];go_wp2;rw[rounds_succ];go_wp2;go_ret;exact⟨zBz (by rw[sd3,HB.out 0 (by omega),HB.out 1 (by omega),HB.out 2 (by omega)]),rfl⟩
 · have q0:=zC4 s 0 (by omega)
   have q1:=zC4 s 1 (by omega);have q2:=zC4 s 2 (by omega);have q3:=zC4 s 3 (by omega);go_enter Tryz.func148,Tryz.ntmps148;go_wp2;refine wp_loop_rounds 4 ?_;rw[rounds_succ];go_wp2;rw[rounds_succ];go_wp2;rw[rounds_succ];go_wp2;rw[rounds_succ];go_wp2;go_ret;exact⟨zBz (by rw[sd4,HB.out 0 (by omega),HB.out 1 (by omega),HB.out 2 (by omega),HB.out 3 (by omega)]),rfl⟩
end
section
open Go.RowKit Nums
attribute [local go_sem ↓] Go.wp_at_zero Go.wp_at_succ
theorem zLy(r:Int):(strOfNums (wrI r)).toList=wr r:=by
 rw[ByteArray.toList_eq,strOfNums_data];rfl
theorem zJ1(s:ByteArray)(n:Nat):(s.extract 0 n).toList=s.data.toList.take n:=by
 rw[ByteArray.toList_eq];simp[ByteArray.extract,ByteArray.copySlice]
theorem zPs(r:Int)(w:World){b:Bool}(h:isR r=b):Calls Tryz.prog 149 #[.int .i64 r] w fun e w'=>e = .returned (.bool b)∧w'=w:=by
 rw[←h];exact Rune_any r w
set_option maxHeartbeats 2000000 in
theorem zN1(s:ByteArray)(w:World)(h0:0<s.size)(hm:s.size≤9223372036854775807):
 Calls Tryz.prog 108 #[.string s] w fun e w'=>e = .returned (.tuple #[.int .i64 (rd s.data.toList).1,.int .i64 (rd s.data.toList).2])∧Below w.heap.size w w':=by
 have HNE:Hid (s.data.toList≠[]):=zEr h0;have HBD:Hid ((rd s.data.toList).2≤s.data.toList.length∧(rd s.data.toList).2≤4):=zSg HNE.out;go_enter Tryz.func108,Tryz.ntmps108;go_wp2
 go_loopw [4] (fun i wr=>∃k:Nat,1≤k∧k≤5∧i = .int .i64 k∧(∀j,1≤j→j<k→(rd s.data.toList).2≠j)∧Below w.heap.size w wr) (fun i _=>5-(intOf i).toNat)
 case atStart=>exact⟨1,by omega,by omega,rfl,fun j a b=>by omega,Below.refl _ _⟩
 case round=>
  obtain⟨k,hk1,hk5,rfl,hno,hbel⟩:=hrel;have HNO:Hid (∀j,1≤j→j<k→(rd s.data.toList).2≠j):=hno;clear hno;by_cases hk:k≤4∧k≤s.size
  · obtain⟨hk4,hks⟩:=hk
    have hsb:=sd_bd s.data.toList k;generalize hx:sd s.data.toList k=x at *;have HX:Hid (sd s.data.toList k=x):=hx;clear hx;cases hr:isR x
    · have HR:Hid (isR x=false):=hr
      clear hr;have HF:Hid (∀j,1≤j→j<k+1→(rd s.data.toList).2≠j):=fun j a b=>by
       by_cases e:j=k
       · subst e;exact zRc HNE.out hk1 (fun h=>by have h2:=h.1;rw[HX.out,HR.out]at h2;cases h2)
       · exact HNO.out j a (by omega)
      go_wp2_with (go_at_call 148;refine(zKp s k _ hk1 hk4 hks hm).mono ?_;rintro e w' ⟨rfl,rfl⟩;rw[HX.out]);go_quiet ((go_at_call 149;exact Calls.quiet_of_same (zPs _ _ HR.out)));go_wp2
      go_roundw
      (case rel=>exact⟨k+1,by omega,by omega,by go_num,HF.out,below_drewN hbel _⟩);case measure=>simp[intOf];omega
    · have HR:Hid (isR x=true):=hr
      clear hr;(have h1k:(k:Int)≤(s.size:Int):=by omega);(have h1k':(0:Int)≤(k:Int):=by omega);by_cases hw:Nums.wr x=s.data.toList.take k
      · have HW:Hid (Nums.wr x=s.data.toList.take k):=hw
        (have hq:((strOfNums (wrI x)).toList==(s.extract 0 k).toList)=true:=by rw[zLy,zJ1,hw];simp);clear hw;have HF:Hid (rd s.data.toList=(x,k)):=by
         have:=zWw (l:=s.data.toList) (n:=k) (by rw[zAg];exact hks) (by rw[HX.out];exact HR.out) (by rw[HX.out];exact HW.out);rw[HX.out]at this;exact this
        go_wp2_with (go_at_call 148;refine(zKp s k _ hk1 hk4 hks hm).mono ?_;rintro e w' ⟨rfl,rfl⟩;rw[HX.out])
        go_region_held3 (fun _=>True) (trivial) (first|(go_at_call 149;refine(zPs _ _ HR.out).mono ?_;rintro e w' ⟨rfl,rfl⟩)|(go_at_call 150;refine(zNv _ _ HR.out).mono ?_;rintro e w3 ⟨rfl,hb3⟩))
        all_goals go_wp2
        all_goals go_ret2
        refine⟨?_,?_⟩
        · rw[HF.out];rfl
        · exact hbel.drew.trans (hb3.mono hbel.size)
      · have hq:((strOfNums (wrI x)).toList==(s.extract 0 k).toList)=false:=by rw[zLy,zJ1];simpa using hw
        have HW:Hid (¬Nums.wr x=s.data.toList.take k):=hw;clear hw;have HF:Hid (∀j,1≤j→j<k+1→(rd s.data.toList).2≠j):=fun j a b=>by
         by_cases e:j=k
         · subst e;exact zRc HNE.out hk1 (fun h=>by have h2:=h.2;rw[HX.out]at h2;exact HW.out h2)
         · exact HNO.out j a (by omega)
        go_wp2_with (go_at_call 148;refine(zKp s k _ hk1 hk4 hks hm).mono ?_;rintro e w' ⟨rfl,rfl⟩;rw[HX.out])
        go_region_held3 (fun _=>True) (trivial) (first|(go_at_call 149;refine(zPs _ _ HR.out).mono ?_;rintro e w' ⟨rfl,rfl⟩)|(go_at_call 150;refine(zNv _ _ HR.out).mono ?_;rintro e w3 ⟨rfl,hb3⟩))
        all_goals go_wp2
        go_roundw
        (case rel=>exact⟨k+1,by omega,by omega,by go_num,HF.out,hbel.drew.trans (hb3.mono hbel.size)⟩);case measure=>simp[intOf];omega
  · have HZ:Hid (rd s.data.toList=(0,0)):=by
     refine rd_zero ?_;by_cases z:(rd s.data.toList).2=0
     · exact z
     · have h2:=HBD.out
       rw[zAg]at h2;exact absurd rfl (HNO.out (rd s.data.toList).2 (by omega) (by omega))
    by_cases hk4:k≤4
    · have hks:¬k≤s.size:=fun h=>hk ⟨hk4,h⟩
      clear hk;go_wp2;go_ret2;refine⟨?_,hbel⟩;rw[HZ.out];rfl
    · clear hk
      go_wp2;go_ret2;refine⟨?_,hbel⟩;rw[HZ.out];rfl
end
section
open Go.RowKit Nums
set_option maxHeartbeats 2000000 in
theorem zNz(s:ByteArray)(w:World)(hm:s.size≤9223372036854775807)(hroom:Room s.data.toList):
 Calls Tryz.prog 69 #[.string s] w fun e w'=>∃v,Below w.heap.size w w' ∧
  ((rs s.data.toList=none∧v = .slice none 0 0∧e = .returned (.tuple #[v,.bool false])) ∨
   ∃xs,rs s.data.toList=some xs∧e = .returned (.tuple #[v,.bool true])∧Made w.heap.size w' v xs):=by
 obtain⟨i0,hi,hz0,hz1,hz2⟩:=info_parts zQ7;go_enter Tryz.func69,Tryz.ntmps69;go_wp2
 go_loopw [0,4] (fun t v wr=>∃(m:ByteArray) (pre:List Int),t = .string m∧m.size+pre.length≤s.size∧Made w.heap.size wr v pre∧zA1 s.data.toList m.data.toList pre∧Below w.heap.size w wr)
  (fun t _ _=>zSq t)
 case atStart=>exact⟨s,[],rfl,by simp,World.ownsRow_nil _ _ _ _,zGs _,Below.refl _ _⟩
 case round=>
  obtain⟨m,pre,rfl,hms,hown,hL,hbel⟩:=hrel;have HL:Hid (zA1 s.data.toList m.data.toList pre):=hL;clear hL;by_cases h0:0<m.size
  · have hne:=zEr h0
    have hbd:=zSg hne;rw[zAg]at hbd;have HNE:Hid (m.data.toList≠[]):=hne;clear hne;generalize hr:rd m.data.toList=q at hbd;obtain⟨r,n⟩:=q;have HR:Hid (rd m.data.toList=(r,n)):=hr;clear hr;simp only at hbd;by_cases hn:n=0
    · subst hn
      have HF:Hid (rs s.data.toList=none):=zH8 HL.out HNE.out (by rw[HR.out]);go_wp2_with (go_at_call 108;refine(zN1 _ _ h0 (by omega)).mono ?_;rintro e w2 ⟨rfl,hb2⟩;rw[HR.out]);go_ret2;exact⟨_,hbel.trans (hb2.mono hbel.size),.inl ⟨HF.out,rfl,rfl⟩⟩
    have hrb:0≤r∧r<1114112:=by
     have h2:=rd_isR (l:=m.data.toList) (by rw[HR.out];exact hn);rw[HR.out]at h2;exact zWa h2
    have hn0:((n:Int)==0)=false:=beq_eq_false_iff_ne.2 (by omega);have hrm:pre.length+1≤35184372088832:=hroom m.data.toList pre HL.out (by rw[zAg,zAg];exact hms) HNE.out (by rw[HR.out];exact hn)
    go_wp2_with (first
     |(go_at_call 108;refine(zN1 _ _ h0 (by omega)).mono ?_;rintro e w2 ⟨rfl,hb2⟩;rw[HR.out])
     |(at_builtin;refine wpList_append_own _ rfl _ _ 122 rfl w.heap.size 21 i0 (.int .i32 0) 1 4 Tryz.underlying122 hi hz0 hz1 hz2 rfl (by decide) _ _ _ rfl (World.ownsRow.alloc (hown.below hb2) _) ⟨w2.heap.size,0,none⟩ 1 1 [.int .i32 r] rfl rfl ?c1 ?c2 ?c3 ?c4 ?c5 ?_))
    case c1=>
     intro j u hj
     match j,hj with
     |0,hj=>simp at hj;subst hj;exact zRn w2 r
    (case c2=>intro u hu;simp at hu;subst hu;rfl);(case c3=>unfold maxLen;omega);(case c4=>omega);(case c5=>have:=hbel.size;have:=hb2.size;simp;omega);intro v' w1 hown' hgrow _;(have hown2:Made w.heap.size w1 v' (pre++[r]):=by unfold Made;simpa using hown');have hbw:Below w.heap.size w w2:=hbel.trans (hb2.mono hbel.size);have hb1:Below w.heap.size w w1:=(hbw.alloc hbw.size _).grown hgrow (by have:=hbw.size;simp;omega) (fun k hk=>(World.ownsRow.lt hown k hk).1);clear hown' hgrow hown;go_wp2
    go_roundw
    (case rel=>exact⟨m.extract n m.size,pre++[r],rfl,by rw[zBt];simp;omega,hown2,zOn HL.out HNE.out HR.out hn,hb1⟩);case measure=>simp only[zSq];rw[zBt];omega
  · have HN:Hid (m.data.toList=[]):=zE6 h0
    have HF:Hid (rs s.data.toList=some pre):=zLb (by have:=HL.out;rw[HN.out]at this;exact this);go_wp2;go_ret2;exact⟨_,hbel,.inr ⟨pre,HF.out,rfl,hown⟩⟩
end
section
open Go.RowKit Nums
set_option maxHeartbeats 2000000 in
theorem zFd(s:ByteArray)(w:World)(hm:s.size≤9223372036854775807):
 Calls Tryz.prog 42 #[.string s] w fun e w'=>e = .returned (.bool (zAp s.data.toList))∧Below w.heap.size w w':=by
 by_cases hs:96<s.size
 · have HF:Hid (zAp s.data.toList=false):=word_far (by rw[zAg];exact hs)
   go_enter Tryz.func42,Tryz.ntmps42;go_wp2;go_ret;exact⟨by rw[HF.out];rfl,Below.refl _ _⟩
 have HROOM:Hid (Room s.data.toList):=zE1 (by rw[zAg];omega);go_enter Tryz.func42,Tryz.ntmps42;go_wp2_with fail;refine(zNz s _ hm HROOM.out).mono ?_;rintro e w1 ⟨v1,hb1,⟨hr,rfl,rfl⟩|⟨xs,hr,rfl,hmade⟩⟩
 · have HF:Hid (zAp s.data.toList=false):=by show zAp _=_;unfold zAp;rw[hr]
   clear hr;go_wp2;refine wp_loop_rounds 1 ?_;rw[rounds_succ];go_wp2;go_ret;exact⟨by rw[HF.out];rfl,hb1⟩
 have HR:Hid (rs s.data.toList=some xs):=hr;have hlen:=(rs_len hr).2;rw[zAg]at hlen;clear hr;obtain⟨ao,cap,rfl,hc⟩:=hmade.row;have HC:Hid (0<xs.length→∃b off,ao=some ⟨b,off,none⟩∧∀i,i<xs.length→w1.cell? ⟨b,off+i,none⟩=some (.int .i32 (xs.getD i 0))):=hc;clear hc hmade;go_wp2
 go_loop [5] (fun i=>∃k:Nat,k≤xs.length∧i = .int .i64 k∧(xs.take k).all vis=true) (fun i=>xs.length-(intOf i).toNat)
 case atStart=>exact⟨0,Nat.zero_le _,rfl,rfl⟩
 case round=>
  obtain⟨k,hk,rfl,hall⟩:=hrel;have HA:Hid ((xs.take k).all vis=true):=hall;clear hall;by_cases hlt:k<xs.length
  · obtain⟨b,off,rfl,hc⟩:=HC.out (by omega)
    have hck:=hc k hlt;clear hc HC;generalize hx:xs.getD k 0=x at *;have HX:Hid (xs.getD k 0=x):=hx;clear hx;by_cases h32:x≤32
    · have HF:Hid (zAp s.data.toList=false):=zJb HR.out hlt (by rw[HX.out];simp[vis];omega)
      go_wp2;go_ret;exact⟨by rw[HF.out];rfl,hb1⟩
    by_cases h127:x=127
    · have HF:Hid (zAp s.data.toList=false):=zJb HR.out hlt (by rw[HX.out];simp[vis];omega)
      have h127':(x==127)=true:=beq_iff_eq.2 h127;clear h127;go_wp2;go_ret;exact⟨by rw[HF.out];rfl,hb1⟩
    · have h127':(x==127)=false:=beq_eq_false_iff_ne.2 h127
      (have HV:Hid (vis x=true):=by show vis x=true;simp[vis];omega);go_wp2
      go_round
      (case rel=>exact⟨k+1,by omega,by go_num,all_next hlt HA.out (by rw[HX.out];exact HV.out)⟩);case measure=>simp[intOf];omega
  · obtain rfl:k=xs.length:=by omega
    have HF:Hid (zAp s.data.toList=(decide (1≤xs.length)&&decide (xs.length≤24))):=word_of HR.out (by have:=HA.out;rwa [List.take_length]at this);by_cases h1:1≤xs.length
    · by_cases h24:xs.length≤24
      all_goals
       go_wp2;go_ret;refine⟨?_,hb1⟩;rw[HF.out];simp[h1,h24];omega
    · go_wp2
      go_ret;refine⟨?_,hb1⟩;rw[HF.out];simp[h1]
end
