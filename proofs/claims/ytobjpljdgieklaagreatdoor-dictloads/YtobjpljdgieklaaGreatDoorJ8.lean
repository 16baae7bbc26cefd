import Derived.Test.YtobjpljdgieklaaGreatDoorJ4
import Derived.Test.YtobjpljdgieklaaGreatDoorCards
import Derived.Test.YtobjpljdgieklaaGreatDoorTie
import Derived.Deep.DeepHandedRow
import Derived.Lib.LaidTab
set_option maxRecDepth 100000
set_option maxHeartbeats 8000000
namespace Go.Proofs.YtobjpljdgieklaaGreatDoor
namespace Mq
open Go.Sort Pm
section
variable {κ:Type} {less:κ→κ→Bool}
def Up(less:κ→κ→Bool)(l:List (κ×(Int×Int))):Prop:=l.Pairwise fun x y=>less y.1 x.1=false
def SUp(less:κ→κ→Bool)(l:List (κ×(Int×Int))):Prop:=l.Pairwise fun x y=>less x.1 y.1=true
theorem SUp.up(o:STO less){l:List (κ×(Int×Int))}(h:SUp less l):Up less l:=h.imp fun h=>o.asymm h
theorem up_le(o:STO less){L R:List (κ×(Int×Int))}{x y:κ×(Int×Int)}(hL:Up less (L++[x]))(hR:Up less (y::R))(h:less y.1 x.1=false):∀u∈L++[x],∀v∈y::R,less v.1 u.1=false:=by
 obtain⟨_,_,pL⟩:=List.pairwise_append.1 hL;obtain⟨pR,_⟩:=List.pairwise_cons.1 hR;have hux:∀u∈L++[x],less y.1 u.1=false:=fun u hu=>by
  rcases List.mem_append.1 hu with a|a
  · exact o.ntr (pL u a x (List.mem_singleton.2 rfl)) h
  · rw[List.mem_singleton.1 a];exact h
 intro u hu v hv;rcases List.mem_cons.1 hv with rfl|b
 · exact hux u hu
 · exact o.ntr (hux u hu) (pR v b)
theorem up_lt(o:STO less){L R:List (κ×(Int×Int))}{x y:κ×(Int×Int)}(hR:Up less (R++[y]))(hL:Up less (x::L))(h:less y.1 x.1=true):∀u∈R++[y],∀v∈x::L,less u.1 v.1=true:=by
 obtain⟨_,_,pR⟩:=List.pairwise_append.1 hR;obtain⟨pL,_⟩:=List.pairwise_cons.1 hL;have hux:∀u∈R++[y],less u.1 x.1=true:=fun u hu=>by
  rcases List.mem_append.1 hu with a|a
  · have h1:=pR u a y (List.mem_singleton.2 rfl)
    cases e:less u.1 x.1 with
    |true=>rfl
    |false=>have:=o.ntr e h1;rw[h]at this;cases this
  · rw[List.mem_singleton.1 a];exact h
 intro u hu v hv;rcases List.mem_cons.1 hv with rfl|b
 · exact hux u hu
 · have h1:=pL v b
   have h2:=hux u hu;cases e:less u.1 v.1 with
   |true=>rfl
   |false=>have:=o.ntr h1 e;rw[h2]at this;cases this
def plt(less:κ→κ→Bool)(x y:κ×(Int×Int)):Bool:=less x.1 y.1
theorem plt_swo(o:STO less):SWO (plt less):=⟨fun _=>o.irr _,fun _ _ _ h1 h2=>o.tr _ _ _ h1 h2,fun _ _ _ h1 h2=>o.ntr h2 h1⟩
end
variable {κ:Type} [DecidableEq κ] {less:κ→κ→Bool}
def of(k:κ)(l:List (κ×(Int×Int))):List (κ×(Int×Int)):=l.filter fun x=>decide (x.1=k)
theorem of_append(k:κ)(a b:List (κ×(Int×Int))):of k (a++b)=of k a++of k b:=List.filter_append ..
theorem of_cons_same(x:κ×(Int×Int))(l:List (κ×(Int×Int))):of x.1 (x::l)=x::of x.1 l:=by simp[of]
theorem of_cons_ne{k:κ}{x:κ×(Int×Int)}(h:x.1≠k)(l:List (κ×(Int×Int))):of k (x::l)=of k l:=by simp[of,h]
def Stably(less:κ→κ→Bool)(l l':List (κ×(Int×Int))):Prop:=Up less l'∧∀k,of k l'=of k l
theorem Stably.self{l:List (κ×(Int×Int))}(h:Up less l):Stably less l l:=⟨h,fun _=>rfl⟩
theorem Stably.trans{a b c:List (κ×(Int×Int))}(h1:∀k,of k b=of k a)(h2:Stably less b c):Stably less a c:=⟨h2.1,fun k=>(h2.2 k).trans (h1 k)⟩
theorem of_mem{k:κ}{l:List (κ×(Int×Int))}{x:κ×(Int×Int)}:x∈of k l↔x∈l∧x.1=k:=by simp[of]
theorem mem_of_same{a b:List (κ×(Int×Int))}(h:∀k,of k b=of k a){x:κ×(Int×Int)}(hx:x∈b):x∈a:=by
 have:x∈of x.1 b:=of_mem.2 ⟨hx,rfl⟩;rw[h]at this;exact(of_mem.1 this).1
theorem of_len(a:List (κ×(Int×Int))):∀b:List (κ×(Int×Int)),(∀k,of k b=of k a)→b.length=a.length:=by
 induction a with
 |nil=>
  intro b h;cases b with
  |nil=>rfl
  |cons x r=>have:=h x.1;rw[of_cons_same]at this;cases this
 |cons y a ih=>
  intro b h;have hy:y∈b:=by
   (have:y∈of y.1 b:=by rw[h,of_cons_same];exact List.mem_cons_self ..);exact(of_mem.1 this).1
  have key:∀b:List (κ×(Int×Int)),of y.1 b=y::of y.1 a→∃p q,b=p++y::q∧of y.1 p=[]∧of y.1 q=of y.1 a:=by
   intro b
   induction b with
   |nil=>intro h;cases h
   |cons z r ih2=>
    intro h;by_cases hz:z.1=y.1
    · rw[←hz,of_cons_same,hz]at h
      simp only[List.cons.injEq]at h;obtain⟨rfl,h2⟩:=h;exact⟨[],r,rfl,rfl,h2⟩
    · rw[of_cons_ne hz]at h
      obtain⟨p,q,rfl,h1,h2⟩:=ih2 h;exact⟨z::p,q,rfl,by rw[of_cons_ne hz];exact h1,h2⟩
  obtain⟨p,q,rfl,h1,h2⟩:=key b (by rw[h,of_cons_same]);have hpq:∀k,of k (p++q)=of k a:=fun k=>by
   by_cases hk:y.1=k
   · subst hk;rw[of_append,h1,h2];rfl
   · have:=h k
     rw[of_append,of_cons_ne hk,of_cons_ne hk]at this;rw[of_append];exact this
  have:=ih (p++q) hpq;simp at this ⊢;omega
theorem Stably.len{a b:List (κ×(Int×Int))}(h:Stably less a b):b.length=a.length:=of_len a b h.2
theorem of_comm(o:STO less){x y:List (κ×(Int×Int))}(h:∀u∈x,∀v∈y,less u.1 v.1=true)(k:κ):of k (x++y)=of k (y++x):=by
 rw[of_append,of_append];cases e:of k x with
 |nil=>simp
 |cons u r=>
  have hu:u∈of k x:=by rw[e];exact List.mem_cons_self ..
  have e2:of k y=[]:=by
   cases e3:of k y with
   |nil=>rfl
   |cons v s=>
    (have hv:v∈of k y:=by rw[e3];exact List.mem_cons_self ..);obtain⟨u1,u2⟩:=of_mem.1 hu;obtain⟨v1,v2⟩:=of_mem.1 hv;have:=h u u1 v v1;rw[u2,v2,o.irr]at this;cases this
  rw[e2];simp
theorem Stably.join{a b c d:List (κ×(Int×Int))}(h1:Stably less a c)(h2:Stably less b d)(h:∀x∈a,∀y∈b,less y.1 x.1=false):Stably less (a++b) (c++d):=by
 refine⟨List.pairwise_append.2 ⟨h1.1,h2.1,fun x hx y hy=>h x (mem_of_same h1.2 hx) y (mem_of_same h2.2 hy)⟩,fun k=>?_⟩;rw[of_append,of_append,h1.2,h2.2]
theorem insert_left(o:STO less){x:κ×(Int×Int)}{a b:List (κ×(Int×Int))}(hup:Up less (a++b))(h1:∀u∈a,less u.1 x.1=true)(h2:∀u∈b,less u.1 x.1=false):Stably less (x::(a++b)) (a++x::b):=by
 obtain⟨p1,p2,p3⟩:=List.pairwise_append.1 hup;refine⟨List.pairwise_append.2 ⟨p1,List.pairwise_cons.2 ⟨h2,p2⟩,fun u hu v hv=>?_⟩,fun k=>?_⟩
 · rcases List.mem_cons.1 hv with rfl|hv
   · exact o.asymm (h1 u hu)
   · exact p3 u hu v hv
 · have:=of_comm o (x:=a) (y:=[x]) (fun u hu v hv=>by rw[List.mem_singleton.1 hv];exact h1 u hu) k
   rw[show a++x::b=(a++[x])++b by simp,show x::(a++b)=([x]++a)++b by simp,of_append,this,←of_append]
theorem insert_right(o:STO less){y:κ×(Int×Int)}{a b:List (κ×(Int×Int))}(hup:Up less (a++b))(h1:∀u∈a,less y.1 u.1=false)(h2:∀u∈b,less y.1 u.1=true):Stably less (a++b++[y]) (a++y::b):=by
 obtain⟨p1,p2,p3⟩:=List.pairwise_append.1 hup;refine⟨List.pairwise_append.2 ⟨p1,List.pairwise_cons.2 ⟨fun u hu=>o.asymm (h2 u hu),p2⟩,fun u hu v hv=>?_⟩,fun k=>?_⟩
 · rcases List.mem_cons.1 hv with rfl|hv
   · exact h1 u hu
   · exact p3 u hu v hv
 · have:=of_comm o (x:=[y]) (y:=b) (fun u hu v hv=>by rw[List.mem_singleton.1 hu];exact h2 v hv) k
   rw[show a++y::b=a++([y]++b)by simp,show a++b++[y]=a++(b++[y])by simp,of_append,this,←of_append]
theorem turned(o:STO less){L1 L2 R1 R2 X Y:List (κ×(Int×Int))}(hL:Up less (L1++L2))(hR:Up less (R1++R2))(h1:∀u∈L1,∀v∈R2,less v.1 u.1=false)(h2:∀u∈R1,∀v∈L2,less u.1 v.1=true)
 (hX:Stably less (L1++R1) X) (hY:Stably less (L2++R2) Y):Stably less (L1++L2++(R1++R2)) (X++Y):=by
 refine Stably.trans (b:=L1++R1++(L2++R2)) (fun k=>?_) (hX.join hY fun x hx y hy=>?_)
 · have:=of_comm o h2 k
   simp only[of_append,List.append_assoc]at this ⊢;rw[←List.append_assoc (of k R1),this,List.append_assoc]
 · obtain⟨_,_,pL⟩:=List.pairwise_append.1 hL
   obtain⟨_,_,pR⟩:=List.pairwise_append.1 hR;rcases List.mem_append.1 hx with a|a<;>rcases List.mem_append.1 hy with b|b
   · exact pL x a y b
   · exact h1 x a y b
   · exact o.asymm (h2 x a y b)
   · exact pR x a y b
variable [Inhabited κ]
theorem insInner_of(o:STO less)(a:Nat):∀(j:Nat) (d:Array (κ×(Int×Int))),j<d.size→(insInner (plt less) a j d).size=d.size∧∀k,of k (insInner (plt less) a j d).toList=of k d.toList
 |0,d,_=>⟨rfl,fun _=>rfl⟩
 |j+1,d,hj=>by
  unfold insInner
  split
  · next h=>
    obtain⟨l⟩:=d;(have hj':j+1<l.length:=by simpa using hj);obtain⟨P,x,T,e,hl⟩:=zOx l j (by omega);(have hT:T≠[]:=fun h=>by rw[e,h]at hj';simp at hj';omega);cases T with
    |nil=>exact absurd rfl hT
    |cons y S=>
     subst e;subst hl;(have g1:(P++x::y::S).toArray[P.length+1]! = y:=by simp);(have g2:(P++x::y::S).toArray[P.length]! = x:=by simp);have hlt:less y.1 x.1=true:=by
      simp only[Bool.and_eq_true,decide_eq_true_eq]at h;have:=h.2;rw[g1,g2]at this;exact this
     rw[zJ6];obtain⟨i1,i2⟩:=insInner_of o a P.length (P++y::x::S).toArray (by simp);refine⟨by rw[i1];simp,fun k=>?_⟩;rw[i2];have:=of_comm o (x:=[y]) (y:=[x]) (fun u hu v hv=>by rw[List.mem_singleton.1 hu,List.mem_singleton.1 hv];exact hlt) k;show of k (P++([y,x]++S))=of k (P++([x,y]++S));rw[of_append,of_append k [y,x],of_append,of_append k [x,y]];rw[show[y,x]=[y]++[x]from rfl,show[x,y]=[x]++[y]from rfl,this]
  · exact⟨rfl,fun _=>rfl⟩
theorem insOuter_of(o:STO less)(a b:Nat):∀(n i:Nat) (d:Array (κ×(Int×Int))),b-i=n→b≤d.size→∀k,of k (insOuter (plt less) a b i d).toList=of k d.toList
 |0,i,d,h,_,k=>by rw[insOuter,if_neg (by omega)]
 |n+1,i,d,h,hb,k=>by
  obtain⟨i1,i2⟩:=insInner_of o a i d (by omega);rw[insOuter,if_pos (by omega),insOuter_of o a b n (i+1) _ (by omega) (by rw[i1];exact hb),i2]
theorem ins_list(o:STO less)(A X B:List (κ×(Int×Int))):∃X',insertionSort (plt less) (A++(X++B)).toArray A.length (A.length+X.length)=(A++(X'++B)).toArray∧Stably less X X':=by
 obtain⟨⟨h1,h2,_⟩,h3⟩:=insertionSort_holds (lt:=plt less) (plt_swo o) (A++(X++B)).toArray A.length (A.length+X.length) (by omega) (by simp);have hof:=insOuter_of o A.length (A.length+X.length) _ (A.length+1) (A++(X++B)).toArray rfl (by simp);change ∀k,of k (insertionSort (plt less) (A++(X++B)).toArray A.length (A.length+X.length)).toList=_ at hof;generalize insertionSort (plt less) (A++(X++B)).toArray A.length (A.length+X.length)=d at h1 h2 h3 hof ⊢;obtain⟨l⟩:=d;have hl:l.length=A.length+(X.length+B.length):=by simpa using h1
 obtain⟨A',r,rfl,hA⟩:=zDw l A.length (by omega);have hr:r.length=X.length+B.length:=by simp at hl;omega
 obtain⟨X',B',rfl,hX⟩:=zDw r X.length (by omega);have hB:B'.length=B.length:=by simp at hr;omega
 have eA:A'=A:=by
  refine List.ext_getElem hA fun i p q=>?_
  have:=h2 i (.inl q);simpa[List.getElem?_append_left p,List.getElem?_append_left q,p,q]using this
 have eB:B'=B:=by
  refine List.ext_getElem hB fun i p q=>?_
  have:=h2 (A.length+X.length+i) (.inr (by omega));rw[eA]at this;simpa[List.getElem?_append_right,hX,Nat.add_assoc,p,q]using this
 subst eA;subst eB;refine⟨X',rfl,?_,fun k=>?_⟩
 · refine List.pairwise_iff_getElem.2 fun i j hi hj hij=>?_
   have:=h3 (A'.length+i) (A'.length+j) (by omega) (by omega) (by omega);simpa[plt,List.getElem?_append_right,List.getElem?_append_left hi,List.getElem?_append_left hj,hi,hj]using this
 · have:=hof k
   simp only[of_append,List.append_cancel_left_eq,List.append_cancel_right_eq]at this;exact this
end Mq
section
namespace Mq
open Go.RowKit Go.Shelf Go.Lib Go.Sort Pm
abbrev Pr:=ByteArray×(Int×Int)
def encP(x:Pr):List Value:=[.string x.1,.int .i64 x.2.1,.int .i64 x.2.2]
def valP(x:Pr):Value := .agg #[.string x.1,.int .i64 x.2.1,.int .i64 x.2.2]
def cfP(x y:Pr):Int:=if zAa x.1 y.1 then -1 else if zAa y.1 x.1 then 1 else 0
theorem cfP_lt(x y:Pr):ltOf cfP x y=plt zAa x y:=by
 unfold ltOf cfP plt;cases zAa x.1 y.1<;>cases zAa y.1 x.1<;>rfl
theorem cfP_ltf:ltOf cfP=plt zAa:=funext fun x=>funext fun y=>cfP_lt x y
theorem inOrder_any(a b:ByteArray)(w:World):Calls Tryz.prog 82 #[.string a,.string b] w fun e w'=>e = .returned (.int .i64 (if zAa a b then -1 else if zAa b a then 1 else 0))∧w'=w:=by
 have h1:=fun W'=>zDc a b W'
 have h2:=fun W'=>zDc b a W'
 have HC:Hid ((if zAa a b then (-1:Int)else if zAa b a then 1 else 0)=if zAa a b then -1 else if zAa b a then 1 else 0):=rfl;generalize zAa a b=b1 at h1 HC ⊢;generalize zAa b a=b2 at h2 HC ⊢;cases b1
 · cases b2
   all_goals
    go_enter Tryz.func82,Tryz.ntmps82;go_wp2_with (first|(go_at_call 100;refine(h1 _).mono ?_;rintro e w' ⟨rfl,rfl⟩)|(go_at_call 100;refine(h2 _).mono ?_;rintro e w' ⟨rfl,rfl⟩));go_ret;exact⟨rfl,rfl⟩
 · go_enter Tryz.func82,Tryz.ntmps82
   go_wp2_with (go_at_call 100;refine(h1 _).mono ?_;rintro e w' ⟨rfl,rfl⟩);go_ret;exact⟨rfl,rfl⟩
theorem byWord_any(x y:Pr)(W:World):Calls Tryz.prog 81 #[.agg #[.string x.1,.int .i64 x.2.1,.int .i64 x.2.2],.agg #[.string y.1,.int .i64 y.2.1,.int .i64 y.2.2]] W fun e w'=>e = .returned (.int .i64 (cfP x y))∧∃q os',w'=grow (W.drewN q) os':=by
 have h1:=fun W'=>inOrder_any x.1 y.1 W'
 have HC:Hid (cfP x y=if zAa x.1 y.1 then -1 else if zAa y.1 x.1 then 1 else 0):=rfl;generalize (if zAa x.1 y.1 then (-1:Int)else if zAa y.1 x.1 then 1 else 0)=c at h1 HC;go_enter Tryz.func81,Tryz.ntmps81;go_wp2_with (go_at_call 82;refine(h1 _).mono ?_;rintro e w' ⟨rfl,rfl⟩);go_ret;exact⟨by rw[HC.out];rfl,0,_,by rw[alloc_eq_grow,alloc_eq_grow,grow_grow];rfl⟩
theorem byWord_lays(blk off size:Nat)(w:World):CmpLays Tryz.prog 81 #[] encP 3 cfP blk off size w:=
 fun _ _ _ _ x y=>byWord_any x y _
def loadP(P:Program)(x:Value)(w:World):Result Value:=(Instr.loadAt 74 x).run P w
def storeP(P:Program)(x y:Value)(w:World):Result Unit:=(Instr.storeAt 74 x y).run P w
section
variable (ρ:Operand→Value) (x y:Operand) (dst:Option Tmp) (ty:TypeId) (pos:String) (af:Array Edge) (g:Option (Nat×Bool)) (w:World)
theorem exec_load_P:(execOp ρ ⟨dst,.load 74 x,ty,pos,af,g⟩).run Tryz.prog w=(loadP Tryz.prog (ρ x) w).andThen (fun v w' => .ok (.value v) w'):=by
 simp only[execOp,Sem.run_bind,loadP,Sem.run_pure]
theorem exec_store_P:(execOp ρ ⟨dst,.store 74 x y,ty,pos,af,g⟩).run Tryz.prog w=(storeP Tryz.prog (ρ x) (ρ y) w).andThen (fun _ w' => .ok .skip w'):=by
 simp only[execOp,Sem.run_bind,storeP,Sem.run_pure]
end
theorem loadP_at{w:World}{b o:Nat}{x:Pr}(h0:w.cell? ⟨b,o,none⟩=some (.string x.1))(h1:w.cell? ⟨b,o+1,none⟩=some (.int .i64 x.2.1))(h2:w.cell? ⟨b,o+2,none⟩=some (.int .i64 x.2.2)):loadP Tryz.prog (.pointer (some ⟨b,o,none⟩)) w = .ok (valP x) w:=by
 unfold loadP valP;simp[go_sem,h0,h1,h2];try rfl
theorem storeP_at{w:World}{b o:Nat}{x:Pr}{u v z:Value}(h0:w.cell? ⟨b,o,none⟩=some u)(h1:w.cell? ⟨b,o+1,none⟩=some v)(h2:w.cell? ⟨b,o+2,none⟩=some z)(f0:w.frozen? ⟨b,o,none⟩=false)(f1:w.frozen? ⟨b,o+1,none⟩=false)(f2:w.frozen? ⟨b,o+2,none⟩=false):storeP Tryz.prog (.pointer (some ⟨b,o,none⟩)) (valP x) w = .ok () (w.setCells b o (encP x)):=by
 unfold storeP valP;simp[go_sem,h0,h1,h2,f0,f1,f2,encP,World.setCells];try rfl
theorem cellP0{w:World}{blk off:Nat}{d:Array Pr}(h:HoldsK encP 3 w blk off d){i:Nat}(hi:i<d.size):w.cell? ⟨blk,off+i*3,none⟩=some (.string d[i]!.1)∧w.frozen? ⟨blk,off+i*3,none⟩=false:=h.cell (c:=0) hi (by omega)
theorem cellP1{w:World}{blk off:Nat}{d:Array Pr}(h:HoldsK encP 3 w blk off d){i:Nat}(hi:i<d.size):w.cell? ⟨blk,off+i*3+1,none⟩=some (.int .i64 d[i]!.2.1)∧w.frozen? ⟨blk,off+i*3+1,none⟩=false:=h.cell (c:=1) hi (by omega)
theorem cellP2{w:World}{blk off:Nat}{d:Array Pr}(h:HoldsK encP 3 w blk off d){i:Nat}(hi:i<d.size):w.cell? ⟨blk,off+i*3+2,none⟩=some (.int .i64 d[i]!.2.2)∧w.frozen? ⟨blk,off+i*3+2,none⟩=false:=h.cell (c:=2) hi (by omega)
theorem encP_k(x:Pr):(encP x).length=3:=rfl
theorem encP_one(x:Pr):∀v∈encP x,v.oneCell'=true:=by intro v hv;simp[encP]at hv;rcases hv with rfl|rfl|rfl<;>rfl
structure RowP(w0:World)(blk off n:Nat):Prop where
 ex:∃d0:Array Pr,d0.size=n∧RowK encP 3 w0 blk off d0
 big:n<4611686018427387904
section
variable {w0 W:World} {blk off n:Nat} {d:Array Pr}
theorem RowP.holds(R:RowP w0 blk off n)(S:SWK encP 3 w0 blk off d W)(hs:d.size=n):HoldsK encP 3 W blk off d:=by
 obtain⟨⟨d0,e,K⟩,_⟩:=R;exact S.holds K.hblk K.hH (by omega)
theorem RowP.load(R:RowP w0 blk off n)(S:SWK encP 3 w0 blk off d W)(hs:d.size=n)(i:Nat)(hi:i<n):loadP Tryz.prog (.pointer (some ⟨blk,off+i*3,none⟩)) W = .ok (valP d[i]!) W:=by
 have H:=R.holds S hs;exact loadP_at (cellP0 H (by omega)).1 (cellP1 H (by omega)).1 (cellP2 H (by omega)).1
theorem RowP.ld(R:RowP w0 blk off n)(S:SWK encP 3 w0 blk off d W)(hs:d.size=n)(i:Nat)(hi:i<n)(q:Nat)(os:Array Obj):loadP Tryz.prog (.pointer (some ⟨blk,off+i*3,none⟩)) (grow (W.drewN q) os) = .ok (valP d[i]!) (grow (W.drewN q) os):=R.load (S.grown q os) hs i hi
theorem RowP.ld1(R:RowP w0 blk off n)(S:SWK encP 3 w0 blk off d W)(hs:d.size=n)(i:Nat)(hi:i<n):loadP Tryz.prog (.pointer (some ⟨blk,off+i*3,none⟩)) W.drew = .ok (valP d[i]!) W.drew:=R.load S.drew hs i hi
theorem RowP.st1(R:RowP w0 blk off n)(S:SWK encP 3 w0 blk off d W)(hs:d.size=n)(i:Nat)(hi:i<n)(y:Pr):storeP Tryz.prog (.pointer (some ⟨blk,off+i*3,none⟩)) (valP y) W.drew = .ok () (W.drew.setCells blk (off+i*3) (encP y)):=by
 have H:=R.holds S.drew hs;exact storeP_at (cellP0 H (by omega)).1 (cellP1 H (by omega)).1 (cellP2 H (by omega)).1 (cellP0 H (by omega)).2 (cellP1 H (by omega)).2 (cellP2 H (by omega)).2
theorem RowP.st2(R:RowP w0 blk off n)(S:SWK encP 3 w0 blk off d W)(hs:d.size=n)(i j:Nat)(hi:i<n)(hj:j<n)(y x:Pr):
 storeP Tryz.prog (.pointer (some ⟨blk,off+j*3,none⟩)) (valP x) (W.drew.setCells blk (off+i*3) (encP y)) = .ok () ((W.drew.setCells blk (off+i*3) (encP y)).setCells blk (off+j*3) (encP x)):=by
 have H:=holds_setCells_c (R.holds S.drew hs) (i*3) (encP y) (by rw[encP_k,size_flatK];omega);have c0:=H (j*3) (by rw[size_setMany,size_flatK];omega);have c1:=H (j*3+1) (by rw[size_setMany,size_flatK];omega);have c2:=H (j*3+2) (by rw[size_setMany,size_flatK];omega);exact storeP_at c0.1 (by rw[Nat.add_assoc];exact c1.1) (by rw[Nat.add_assoc];exact c2.1) c0.2 (by rw[Nat.add_assoc];exact c1.2) (by rw[Nat.add_assoc];exact c2.2)
theorem RowP.swapped(R:RowP w0 blk off n)(S:SWK encP 3 w0 blk off d W)(hs:d.size=n)(i j:Nat)(hi:i<n)(hj:j<n):
 SWK encP 3 w0 blk off (swp d i j) ((W.drew.setCells blk (off+i*3) (encP d[j]!)).setCells blk (off+j*3) (encP d[i]!)):=by
 obtain⟨⟨d0,e,K⟩,_⟩:=R;exact S.swapped K i j (by omega) (by omega)
theorem RowP.cmp(S:SWK encP 3 w0 blk off d W)(x y:Pr)(q:Nat)(os:Array Obj):
 Calls Tryz.prog 81 #[valP x,valP y] (grow (W.drewN q) os) fun e w'=>e = .returned (.int .i64 (cfP x y))∧∃q' os',w'=grow ((grow (W.drewN q) os).drewN q') os':=S.cmp (byWord_lays blk off d.size w0) rfl x y q os
end
end Mq
end
section
namespace Mq
open Go.RowKit Go.Shelf Go.Lib Go.Sort Pm
set_option maxRecDepth 1000000
attribute [local go_sem ↓] exec_load_P exec_store_P
theorem swapRange_any(blk off n cap:Nat)(w0 w:World)(R:RowP w0 blk off n)(A X M Y B:List Pr)(S:SWK encP 3 w0 blk off (A++(X++(M++(Y++B)))).toArray w)(hn:(A++(X++(M++(Y++B)))).length=n)(hxy:X.length=Y.length)(a b c:Nat)(ha:a=A.length)(hb:b=A.length+X.length+M.length)(hc:c=X.length):
 Calls Tryz.prog 195 #[.slice (some ⟨blk,off,none⟩) n cap,.int .i64 a,.int .i64 b,.int .i64 c,.func (.func 81) #[] #[]] w fun e w'=>e = .returned (.tuple #[])∧SWK encP 3 w0 blk off (A++(Y++(M++(X++B)))).toArray w':=by
 have hbig:=R.big;have S0:Aside (SWK encP 3 w0 blk off (A++(X++(M++(Y++B)))).toArray w):=S;have hn':A.length+(X.length+(M.length+(Y.length+B.length)))=n:=by simpa using hn
 have HN:Hid (A.length+(X.length+(M.length+(Y.length+B.length)))=n):=hn';have HXY:Hid (X.length=Y.length):=hxy;have HA:Hid (a=A.length):=ha;have HB:Hid (b=A.length+X.length+M.length):=hb;have HC:Hid (c=X.length):=hc;have hbn:b+c≤n:=by omega
 have habn:a+c≤n:=by omega
 have mixed:=zAn;clear S hn hn' hxy ha hb hc;go_enter Tryz.func195,Tryz.ntmps195;go_wp2
 go_loopg [10] c (fun g s10 wr=>∃(i:Nat) (l:List Pr),s10 = .int .i64 i∧i≤c∧c-i≤g∧l.length=n∧Aside (SWK encP 3 w0 blk off l.toArray wr)∧Hid (l=A++(Y.take i++(X.drop i++(M++(X.take i++(Y.drop i++B)))))))
 case atStart=>exact⟨0,_,rfl,Nat.zero_le _,by omega,by simpa using HN.out,S0,by show _=_;simp⟩
 case round=>
  clear S0;obtain⟨i,l,rfl,hic,hg,hln,S1,HL⟩:=hrel;by_cases hlt:i<c
  · have hltz:(i:Int)<(c:Int):=by omega
    (have hX:i<X.length:=by have:=HC.out;omega);(have hY:i<Y.length:=by have:=HXY.out;omega);(have ea:((a:Int)+(i:Int)).toNat=a+i:=by omega);(have pa:(0:Int)≤(a:Int)+(i:Int):=by omega);(have ba:(a:Int)+(i:Int)<(n:Int):=by omega);(have ra:IntKind.i64.wrap ((a:Int)+(i:Int))=(a:Int)+(i:Int):=by rw[IntKind.wrap_i64];omega);(have ec:((b:Int)+(i:Int)).toNat=b+i:=by omega);(have pc:(0:Int)≤(b:Int)+(i:Int):=by omega);(have bc:(b:Int)+(i:Int)<(n:Int):=by omega);(have rc:IntKind.i64.wrap ((b:Int)+(i:Int))=(b:Int)+(i:Int):=by rw[IntKind.wrap_i64];omega);(have hs:l.toArray.size=n:=by simpa using hln);have S2:Aside (SWK encP 3 w0 blk off (swp l.toArray (a+i) (b+i)) ((wr.drew.setCells blk (off+(a+i)*3) (encP l.toArray[b+i]!)).setCells blk (off+(b+i)*3) (encP l.toArray[a+i]!))):=R.swapped S1.out hs (a+i) (b+i) (by omega) (by omega);have la:=R.ld1 S1.out hs (a+i) (by omega);have lb:=R.ld1 S1.out hs (b+i) (by omega);have sa:=R.st1 S1.out hs (a+i) (by omega) l.toArray[b+i]!;have sb:=R.st2 S1.out hs (a+i) (b+i) (by omega) (by omega) l.toArray[b+i]! l.toArray[a+i]!;have HSW:Hid (swp l.toArray (a+i) (b+i)=(A++(Y.take (i+1)++(X.drop (i+1)++(M++(X.take (i+1)++(Y.drop (i+1)++B)))))).toArray):=by
     show _=_;have e:l=(A++Y.take i)++X[i]::((X.drop (i+1)++(M++X.take i))++Y[i]::(Y.drop (i+1)++B)):=by
      rw[HL.out,List.drop_eq_getElem_cons hX,List.drop_eq_getElem_cons hY];simp only[List.append_assoc,List.cons_append]
     rw[zPw l _ _ _ _ _ (a+i) (b+i) e (by simp;have:=HA.out;omega) (by simp;have:=HB.out;have:=HXY.out;omega),List.take_succ_eq_append_getElem hX,List.take_succ_eq_append_getElem hY];simp only[List.append_assoc,List.cons_append,List.nil_append]
    generalize l.toArray[b+i]! = yI at S2 lb sa sb;generalize l.toArray[a+i]! = xI at S2 la sb;clear S1 hs hX hY;go_wp2_with fail
    go_big_region_o
    clear la lb sa sb;generalize (wr.drew.setCells blk (off+(a+i)*3) (encP yI)).setCells blk (off+(b+i)*3) (encP xI)=w2 at S2 ⊢;go_wp2;go_roundg (c-(i+1));(case measure=>omega);case rel=>exact⟨i+1,_,by go_num,by omega,Nat.le_refl _,by have:=HN.out;have:=HXY.out;have:=HC.out;simp;omega,HSW.out▸S2,rfl⟩
  · have hltz:¬(i:Int)<(c:Int):=by omega
    go_wp2
    go_end0
    have e:l=A++(Y++(M++(X++B))):=by
     (have h1:X.length≤i:=by have:=HC.out;omega);(have h2:Y.length≤i:=by have:=HXY.out;omega);rw[HL.out,List.take_of_length_le h1,List.take_of_length_le h2,List.drop_eq_nil_of_le h1,List.drop_eq_nil_of_le h2];simp
    exact⟨rfl,e▸S1.out⟩
end Mq
end
section
namespace Mq
open Go.RowKit Go.Shelf Go.Lib Go.Sort Pm
set_option maxRecDepth 1000000
theorem rotate_any(blk off n cap:Nat)(w0 w:World)(R:RowP w0 blk off n)(A X Y B:List Pr)(S:SWK encP 3 w0 blk off (A++(X++(Y++B))).toArray w)(hn:(A++(X++(Y++B))).length=n)(hx:0<X.length)(hy:0<Y.length)(a m b:Nat)(ha:a=A.length)(hm:m=A.length+X.length)(hb:b=A.length+X.length+Y.length):
 Calls Tryz.prog 178 #[.slice (some ⟨blk,off,none⟩) n cap,.int .i64 a,.int .i64 m,.int .i64 b,.func (.func 81) #[] #[]] w fun e w'=>e = .returned (.tuple #[])∧SWK encP 3 w0 blk off (A++(Y++(X++B))).toArray w':=by
 have hbig:=R.big;have hn':A.length+(X.length+(Y.length+B.length))=n:=by simpa using hn
 have HN:Hid (A.length+(X.length+(Y.length+B.length))=n):=hn';obtain⟨i0,hi0⟩:∃i,i=X.length:=⟨_,rfl⟩;obtain⟨j0,hj0⟩:∃i,i=Y.length:=⟨_,rfl⟩;have e1:(m:Int)-(a:Int)=(i0:Int):=by omega
 have e2:(b:Int)-(m:Int)=(j0:Int):=by omega
 have hmi:i0≤m:=by omega
 have hmj:m+j0≤n:=by omega
 have hi00:0<i0:=by omega
 have hj00:0<j0:=by omega
 have S0:Aside (SWK encP 3 w0 blk off (A++(X++(Y++B))).toArray w):=S;have HI:Hid (i0=X.length):=hi0;have HJ:Hid (j0=Y.length):=hj0;have HM:Hid (m=A.length+X.length):=hm;clear S hn hn' hx hy ha hm hb hi0 hj0;go_enter Tryz.func178,Tryz.ntmps178;go_wp2
 go_loopg [10,11] (i0+j0) (fun g s10 s11 wr=>∃(i j:Nat) (A' X' Y' B':List Pr),s10 = .int .i64 i∧s11 = .int .i64 j∧i≤m∧m+j≤n∧0<i∧0<j∧i+j≤g∧Aside (SWK encP 3 w0 blk off (A'++(X'++(Y'++B'))).toArray wr)∧Hid (i=X'.length∧j=Y'.length∧m=A'.length+X'.length∧(A'++(X'++(Y'++B'))).length=n∧A'++(Y'++(X'++B'))=A++(Y++(X++B))))
 case atStart=>exact⟨i0,j0,A,X,Y,B,rfl,rfl,hmi,hmj,hi00,hj00,Nat.le_refl _,S0,HI.out,HJ.out,HM.out,by have:=HN.out;simpa using this,rfl⟩
 case round=>
  clear S0;obtain⟨i,j,A',X',Y',B',rfl,rfl,him,hjn,hi,hj,hg,S1,H⟩:=hrel;have emi:(m:Int)-(i:Int)=((m-i:Nat):Int):=by omega
  by_cases heq:i=j
  · subst heq
    (have hc:=fun(W:World) (SW:SWK encP 3 w0 blk off (A'++(X'++(Y'++B'))).toArray W)=>swapRange_any blk off n cap w0 W R A' X' [] Y' B' SW H.out.2.2.2.1 (by have:=H.out;omega) (m-i) m i (by have:=H.out;omega) (by have:=H.out;simp;omega) H.out.1);go_wp2_with (go_at_call 195;refine(hc _ S1.out).mono ?_;rintro e w' ⟨rfl,S2⟩)
    go_end0
    exact⟨rfl,H.out.2.2.2.2▸S2⟩
  · have hne:((i:Int)==(j:Int))=false:=beq_eq_false_iff_ne.2 (by omega)
    by_cases hgt:j<i
    · have hgtz:(j:Int)<(i:Int):=by omega
      obtain⟨X1,X2,hX,hX1⟩:=zDw X' j (by have:=H.out;omega);(have eij:(i:Int)-(j:Int)=((i-j:Nat):Int):=by omega);(have hX2:Hid (X2.length=i-j):=by show _=_;have h:=H.out.1;rw[hX]at h;simp at h;omega);have HX1:Hid (X1.length=j):=hX1;have HXX:Hid (X'=X1++X2):=hX;(have hc:=fun(W:World) (SW:SWK encP 3 w0 blk off (A'++(X1++(X2++(Y'++B')))).toArray W)=>swapRange_any blk off n cap w0 W R A' X1 X2 Y' B' SW (by have:=H.out.2.2.2.1;rw[hX]at this;simpa using this) (by have:=H.out;omega) (m-i) m j (by have:=H.out;omega) (by have:=H.out;have:=hX2.out;omega) hX1.symm);have S1':Aside (SWK encP 3 w0 blk off (A'++(X1++(X2++(Y'++B')))).toArray wr):=by
       have:=S1.out;rw[hX,List.append_assoc]at this;exact this
      clear S1 hX hX1;go_wp2_with (go_at_call 195;refine(hc _ S1'.out).mono ?_;rintro e w' ⟨rfl,S2⟩);have S2':Aside (SWK encP 3 w0 blk off ((A'++Y')++(X2++(X1++B'))).toArray w'):=by
       have:=S2;rw[show A'++(Y'++(X2++(X1++B')))=(A'++Y')++(X2++(X1++B'))by simp]at this;exact this
      clear S2;go_roundg (i-j+j);case measure=>omega
      case rel=>
       refine⟨i-j,j,A'++Y',X2,X1,B',by rw[←eij],rfl,by omega,hjn,by omega,hj,Nat.le_refl _,S2',hX2.out.symm,HX1.out.symm,?_,?_,?_⟩
       · have:=H.out;have:=hX2.out;simp;omega
       · have h1:=H.out.2.2.2.1;have h2:=H.out;have h3:=hX2.out;have h4:=HX1.out;simp at h1 ⊢;omega
       · rw[←H.out.2.2.2.2,HXX.out];simp
    · have hgtz:¬(j:Int)<(i:Int):=by omega
      (have hlt:i<j:=by omega);obtain⟨Y1,Y2,hY,hY1⟩:=zDw Y' (j-i) (by have:=H.out;omega);(have eji:(j:Int)-(i:Int)=((j-i:Nat):Int):=by omega);(have emj:(m:Int)+(j:Int)-(i:Int)=((m+j-i:Nat):Int):=by omega);(have hY2:Hid (Y2.length=i):=by show _=_;have h:=H.out.2.1;rw[hY]at h;simp at h;omega);have HY1:Hid (Y1.length=j-i):=hY1;have HYY:Hid (Y'=Y1++Y2):=hY;(have hc:=fun(W:World) (SW:SWK encP 3 w0 blk off (A'++(X'++(Y1++(Y2++B')))).toArray W)=>swapRange_any blk off n cap w0 W R A' X' Y1 Y2 B' SW (by have:=H.out.2.2.2.1;rw[hY]at this;simpa using this) (by have:=H.out;have:=hY2.out;omega) (m-i) (m+j-i) i (by have:=H.out;omega) (by have:=H.out;omega) H.out.1);have S1':Aside (SWK encP 3 w0 blk off (A'++(X'++(Y1++(Y2++B')))).toArray wr):=by
       have:=S1.out;rw[hY,List.append_assoc Y1]at this;exact this
      clear S1 hY hY1;go_wp2_with (go_at_call 195;refine(hc _ S1'.out).mono ?_;rintro e w' ⟨rfl,S2⟩);have S2':Aside (SWK encP 3 w0 blk off (A'++(Y2++(Y1++(X'++B')))).toArray w'):=S2;clear S2;go_roundg (i+(j-i));case measure=>omega
      case rel=>
       refine⟨i,j-i,A',Y2,Y1,X'++B',rfl,by rw[←eji],him,by omega,hi,by omega,Nat.le_refl _,S2',hY2.out.symm,HY1.out.symm,?_,?_,?_⟩
       · have:=H.out;have:=hY2.out;omega
       · have h1:=H.out.2.2.2.1;have h2:=H.out;have h3:=hY2.out;have h4:=HY1.out;simp at h1 ⊢;omega
       · rw[←H.out.2.2.2.2,HYY.out];simp
end Mq
namespace Mq
open Go.RowKit Go.Shelf Go.Lib Go.Sort Pm
set_option maxRecDepth 1000000
theorem lt_of_cf{x y:Pr}(h:zAa x.1 y.1=true):cfP x y<0:=by unfold cfP;rw[if_pos h];decide
theorem not_lt_of_cf{x y:Pr}(h:zAa x.1 y.1=false):¬cfP x y<0:=by
 unfold cfP;rw[h];cases zAa y.1 x.1<;>decide
theorem all_lt{R:List Pr}{u x:Pr}(h:Up zAa (R++[u]))(hu:zAa u.1 x.1=true):∀v∈R++[u],zAa v.1 x.1=true:=fun v hv=>
 up_lt lessB_sto (L:=[]) h (List.pairwise_singleton ..) hu v hv x (List.mem_singleton.2 rfl)
theorem all_ge{R:List Pr}{u x:Pr}(h:Up zAa (u::R))(hu:zAa u.1 x.1=false):∀v∈u::R,zAa v.1 x.1=false:=fun v hv=>
 up_le lessB_sto (L:=[]) (List.pairwise_singleton ..) h hu x (by simp) v hv
theorem all_le{R:List Pr}{u y:Pr}(h:Up zAa (R++[u]))(hu:zAa y.1 u.1=false):∀v∈R++[u],zAa y.1 v.1=false:=fun v hv=>
 up_le lessB_sto (R:=[]) h (List.pairwise_singleton ..) hu v hv y (List.mem_singleton.2 rfl)
theorem all_gt{R:List Pr}{u y:Pr}(h:Up zAa (u::R))(hu:zAa y.1 u.1=true):∀v∈u::R,zAa y.1 v.1=true:=fun v hv=>
 up_lt lessB_sto (R:=[]) (List.pairwise_singleton ..) h hu y (by simp) v hv
theorem up_left{a b:List Pr}(h:Up zAa (a++b)):Up zAa a:=(List.pairwise_append.1 h).1
theorem up_right{a b:List Pr}(h:Up zAa (a++b)):Up zAa b:=(List.pairwise_append.1 h).2.1
theorem part_at(P L S:List Pr)(i:Nat)(h1:P.length≤i)(h2:i≤P.length+L.length):∃L1 L2,L=L1++L2∧P.length+L1.length=i ∧
 (0<L1.length→∃a u,L1=a++[u]∧(P++(L++S)).toArray[i-1]! = u)∧(0<L2.length→∃u b,L2=u::b∧(P++(L++S)).toArray[i]! = u):=by
 obtain⟨L1,L2,rfl,hl⟩:=zDw L (i-P.length) (by omega);refine⟨L1,L2,rfl,by omega,fun h=>?_,fun h=>?_⟩
 · obtain⟨a,u,rfl⟩:=zHc L1 h
   exact⟨a,u,rfl,Pm.get_at _ (P++a) (L2++S) u (i-1) (by simp) (by simp at hl ⊢;omega)⟩
 · cases L2 with
   |nil=>simp at h
   |cons u b=>exact⟨u,b,rfl,Pm.get_at _ (P++L1) (b++S) u i (by simp) (by simp at hl ⊢;omega)⟩
end Mq
end
section
open Pm
namespace Mg
theorem zL0{α:Type}{l:List α}{k:Nat}{x:α}(h:l[k]?=some x):l.take (k+1)=l.take k++[x]:=by rw[List.take_add_one,h];rfl
section
variable {κ:Type} {less:κ→κ→Bool}
def ins(less:κ→κ→Bool)(m:κ×(Int×Int)):List (κ×(Int×Int))→List (κ×(Int×Int))
 |[]=>[m]
 |x::r=>if less m.1 x.1 then m::x::r else x::ins less m r
theorem zVw{m x:κ×(Int×Int)}:∀{l:List (κ×(Int×Int))},x∈ins less m l→x=m∨x∈l
 |[],h=>by simpa[ins]using h
 |y::r,h=>by
  unfold ins at h
  split at h
  · simpa using h
  · rcases List.mem_cons.1 h with e|e
    · exact .inr (by simp[e])
    · rcases zVw e with e|e
      · exact .inl e
      · exact .inr (by simp[e])
theorem ins_len(m:κ×(Int×Int)):∀l:List (κ×(Int×Int)),(ins less m l).length=l.length+1
 |[]=>rfl
 |y::r=>by
  unfold ins
  split
  · rfl
  · rw[List.length_cons,ins_len m r,List.length_cons]
theorem zVt(o:STO less)(m:κ×(Int×Int)):∀{l:List (κ×(Int×Int))},Mq.Up less l→Mq.Up less (ins less m l)
 |[],_=>List.pairwise_singleton _ _
 |y::r,h=>by
  obtain⟨h1,h2⟩:=List.pairwise_cons.1 h;unfold ins
  split
  · rename_i hm
    refine List.pairwise_cons.2 ⟨fun z hz=>?_,h⟩;rcases List.mem_cons.1 hz with e|e
    · rw[e];exact o.asymm hm
    · exact o.ntr (o.asymm hm) (h1 z e)
  · rename_i hm
    refine List.pairwise_cons.2 ⟨fun z hz=>?_,zVt o m h2⟩;rcases zVw hz with e|e
    · rw[e];exact Bool.eq_false_iff.2 hm
    · exact h1 z e
def zFt(less:κ→κ→Bool)(l:List (κ×(Int×Int))):List (κ×(Int×Int)):=l.foldl (fun a m=>ins less m a) []
theorem zVy(o:STO less)(l:List (κ×(Int×Int))):Mq.Up less (zFt less l):=by
 suffices H:∀(l a:List (κ×(Int×Int))),Mq.Up less a→Mq.Up less (l.foldl (fun a m=>ins less m a) a)from H l [] List.Pairwise.nil
 intro l
 induction l with
 |nil=>exact fun a h=>h
 |cons x r ih=>exact fun a h=>ih _ (zVt o x h)
def insP(less:κ→κ→Bool)(m:κ×(Int×Int))(done:Bool)(r:List (κ×(Int×Int))):List (κ×(Int×Int)):=if done then r else ins less m r
end
section
variable {κ:Type} [DecidableEq κ] {less:κ→κ→Bool}
theorem zL4(o:STO less):∀{a b:List (κ×(Int×Int))},Mq.Up less a→Mq.Up less b→(∀k,Mq.of k a=Mq.of k b)→a=b
 |[],b,_,_,h=>by
  have:=Mq.of_len b [] h;exact(List.eq_nil_of_length_eq_zero (by simpa using this.symm)).symm
 |x::r,[],_,_,h=>by
  have:=Mq.of_len [] (x::r) h;simp at this
 |x::r,y::s,ha,hb,h=>by
  have hx:x∈y::s:=Mq.mem_of_same (a:=y::s) (b:=x::r) h (by simp);have hy:y∈x::r:=Mq.mem_of_same (a:=x::r) (b:=y::s) (fun k=>(h k).symm) (by simp);have h1:less y.1 x.1=false:=by
   rcases List.mem_cons.1 hy with e|e
   · rw[e];exact o.irr _
   · exact(List.pairwise_cons.1 ha).1 y e
  have h2:less x.1 y.1=false:=by
   rcases List.mem_cons.1 hx with e|e
   · rw[e];exact o.irr _
   · exact(List.pairwise_cons.1 hb).1 x e
  have he:x.1=y.1:=o.tot _ _ h2 h1;have h3:=h x.1;rw[Mq.of_cons_same,he,Mq.of_cons_same,List.cons.injEq]at h3;obtain⟨rfl,_⟩:=h3;rw[zL4 o (List.pairwise_cons.1 ha).2 (List.pairwise_cons.1 hb).2 fun k=>by
   have:=h k;by_cases e:x.1=k
   · subst e
     rw[Mq.of_cons_same,Mq.of_cons_same,List.cons.injEq]at this;exact this.2
   · rwa [Mq.of_cons_ne e,Mq.of_cons_ne e]at this]
theorem zI4(o:STO less){l a b:List (κ×(Int×Int))}(h1:Mq.Stably less l a)(h2:Mq.Stably less l b):a=b:=
 zL4 o h1.1 h2.1 fun k=>(h1.2 k).trans (h2.2 k).symm
theorem zVv(o:STO less)(m:κ×(Int×Int))(k:κ):∀{l:List (κ×(Int×Int))},Mq.Up less l→Mq.of k (ins less m l)=Mq.of k (l++[m])
 |[],_=>rfl
 |y::r,h=>by
  obtain⟨h1,h2⟩:=List.pairwise_cons.1 h;unfold ins
  split
  · rename_i hm
    rw[show m::y::r=[m]++(y::r)from rfl];refine Mq.of_comm o (fun u hu v hv=>?_) k;rw[List.mem_singleton.1 hu];rcases List.mem_cons.1 hv with e|e
    · rw[e];exact hm
    · cases hc:less m.1 v.1 with
      |true=>rfl
      |false=>
       have:=o.ntr (h1 v e) hc;rw[this]at hm;cases hm
  · by_cases e:y.1=k
    · subst e
      rw[Mq.of_cons_same,List.cons_append,Mq.of_cons_same,zVv o m _ h2]
    · rw[Mq.of_cons_ne e,List.cons_append,Mq.of_cons_ne e,zVv o m _ h2]
theorem zMs(o:STO less)(l:List (κ×(Int×Int))):Mq.Stably less l (zFt less l):=by
 refine⟨zVy o l,fun k=>?_⟩
 suffices H:∀(l a:List (κ×(Int×Int))),Mq.Up less a→Mq.of k (l.foldl (fun a m=>ins less m a) a)=Mq.of k (a++l)by simpa[zFt]using H l [] List.Pairwise.nil
 intro l
 induction l with
 |nil=>intro a _;simp
 |cons x r ih=>
  intro a h;rw[List.foldl_cons,ih _ (zVt o x h),Mq.of_append,zVv o x k h,←Mq.of_append,List.append_assoc];rfl
end
end Mg
end
section
open Go.ChangeShapes Go.WideShapes Go.ChangeAt Go.RowKit
theorem own:ownKnob Tryz.prog.godebug=none:=by kernel_rfl
theorem zMv : Tryz.prog.globalNamed "abecedary/letters.least" = some 1 := by kernel_rfl
theorem zWb : Tryz.prog.globalNamed "abecedary/letters.lead" = some 0 := by kernel_rfl
theorem zSk:(Tryz.prog.globals[1]?).map (·.type)=some 204:=by kernel_rfl
theorem zWa:(Tryz.prog.globals[0]?).map (·.type)=some 203:=by kernel_rfl
theorem zSy:Tryz.prog.cellsOf 204=5:=by kernel_rfl
theorem zW5:Tryz.prog.cellsOf 203=5:=by kernel_rfl
theorem zSw:Tryz.prog.cellsOf 21=1:=by kernel_rfl
theorem zW7:Tryz.prog.cellsOf 5=1:=by kernel_rfl
abbrev laidBoth : List (String × DataW Unit) := [("abecedary/letters.least", Rows.laid_abecedary_letters_least), ("abecedary/letters.lead", Rows.laid_abecedary_letters_lead)]
theorem zL1{W:World}(h:laidMetH Tryz.prog laidBoth W):Tabs W:=by
 have t : Lib.TabIs Tryz.prog W "abecedary/letters.least" .i32 [0, 0, 128, 2048, 65536] :=
  Lib.tabIs_of_head (rest := [("abecedary/letters.lead", Rows.laid_abecedary_letters_lead)]) zMv zSk Tryz.underlying204 Tryz.underlying21 zSw zSy h
 have h2 : laidMetH Tryz.prog [("abecedary/letters.lead", Rows.laid_abecedary_letters_lead)] W := laidMetH.filter (fun x => x.1 == "abecedary/letters.lead") h
 have l : Lib.TabIs Tryz.prog W "abecedary/letters.lead" .u8 [0, 0, 192, 224, 240] :=
  Lib.tabIs_of_head (rest:=[]) zWb zWa Tryz.underlying203 Tryz.underlying5 zW7 zW5 h2
 exact⟨l.cell zWb 2 (by decide),l.cell zWb 3 (by decide),l.cell zWb 4 (by decide),l.cell zWb 1 (by decide),
  t.cell zMv 1 (by decide),t.cell zMv 2 (by decide),t.cell zMv 3 (by decide),t.cell zMv 4 (by decide)⟩
def layLeast:Obj→Obj
 |.cells _ t frozen => .cells #[.int .i32 0,.int .i32 0,.int .i32 128,.int .i32 2048,.int .i32 65536] t frozen
 |o=>o
def layLead:Obj→Obj
 |.cells _ t frozen => .cells #[.int .u8 0,.int .u8 0,.int .u8 192,.int .u8 224,.int .u8 240] t frozen
 |o=>o
noncomputable def laidWorld(os:Os):World:=
 { World.holding Tryz.prog os ⟨#[],#[],[]⟩with heap:=((World.holding Tryz.prog os ⟨#[],#[],[]⟩).heap.modify 1 layLeast).modify 0 layLead }
end
