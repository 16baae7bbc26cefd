import Derived.Laws.BytesArg
import Derived.Test.YtobjpljdgieklaaGreatDoorJ4
set_option maxRecDepth 100000
set_option maxHeartbeats 8000000
namespace Go.Proofs.YtobjpljdgieklaaGreatDoor
namespace Nums
def u8(n:Int):UInt8:=UInt8.ofNat n.toNat
def wr(r:Int):List UInt8:=(wrI r).map u8
theorem zDy{x:Int}(h0:0≤x)(h:x<256):((u8 x).toNat:Int)=x:=by
 unfold u8;rw[UInt8.toNat_ofNat_of_lt' (by show x.toNat<256;omega)];omega
theorem zJ1(b:UInt8){x:Int}(h:x=(b.toNat:Int)):u8 x=b:=by
 subst h;unfold u8;simp
theorem zLd(b:UInt8)(l:List UInt8):bt (b::l) 0=(b.toNat:Int):=rfl
theorem zGo(b:UInt8)(l:List UInt8)(i:Nat):bt (b::l) (i+1)=bt l i:=rfl
theorem zLq(r:Int):(wr r).length=(wrI r).length:=by simp[wr]
theorem rd_wr{r:Int}(h:isR r=true)(t:List UInt8):rd (wr r++t)=(r,(wrI r).length):=by
 have hb:=of_decide_eq_true h;by_cases a:r<128
 · have e:wr r=[u8 r]:=by unfold wr;rw[wrI1 a];rfl
   have v:=zDy (x:=r) (by omega) (by omega);rw[e,wrI1 a,rd_one (by show((u8 r).toNat:Int)<128;omega)];show(((u8 r).toNat:Int),1)=_;rw[v];rfl
 by_cases b:r<2048
 · have e:wr r=[u8 (192+r/64),u8 (128+r%64)]:=by unfold wr;rw[wrI2 (by omega) b];rfl
   have v0:=zDy (x:=192+r/64) (by omega) (by omega);have v1:=zDy (x:=128+r%64) (by omega) (by omega);rw[e,wrI2 (by omega) b];generalize hl:[u8 (192+r/64),u8 (128+r%64)]++t=l;(have b0:bt l 0=192+r/64:=by rw[←hl];exact v0);(have b1:bt l 1=128+r%64:=by rw[←hl];exact v1);(have hn:2≤l.length:=by rw[←hl];simp);have ha:acc (ldOf 2) l 2=r:=by show acc 192 l 2=r;rw[acc2,b0,b1];omega
   rw[zQa (n:=2) (by omega) (by omega) (by rw[b0];unfold ldSz;rw[if_neg (by omega),if_neg (by omega),if_pos (by omega)];rfl) hn
    (fun j x y => by obtain rfl : j = 1 := by omega
                     rw[b1];omega) (by rw[ha];show(128:Int)≤r;omega) (by rw[ha];exact h),ha]
   rfl
 by_cases c:r<65536
 · have e:wr r=[u8 (224+r/64/64),u8 (128+r/64%64),u8 (128+r%64)]:=by unfold wr;rw[wrI3 (by omega) c];rfl
   have v0:=zDy (x:=224+r/64/64) (by omega) (by omega);have v1:=zDy (x:=128+r/64%64) (by omega) (by omega);have v2:=zDy (x:=128+r%64) (by omega) (by omega);rw[e,wrI3 (by omega) c];generalize hl:[u8 (224+r/64/64),u8 (128+r/64%64),u8 (128+r%64)]++t=l;(have b0:bt l 0=224+r/64/64:=by rw[←hl];exact v0);(have b1:bt l 1=128+r/64%64:=by rw[←hl];exact v1);(have b2:bt l 2=128+r%64:=by rw[←hl];exact v2);(have hn:3≤l.length:=by rw[←hl];simp);have ha:acc (ldOf 3) l 3=r:=by show acc 224 l 3=r;rw[acc3,b0,b1,b2];omega
   rw[zQa (n:=3) (by omega) (by omega) (by rw[b0];unfold ldSz;rw[if_neg (by omega),if_neg (by omega),if_neg (by omega),if_pos (by omega)];rfl) hn
    (fun j x y => by obtain rfl | rfl : j = 1 ∨ j = 2 := by omega
                     · rw[b1];omega
                     · rw[b2];omega) (by rw[ha];show(2048:Int)≤r;omega) (by rw[ha];exact h),ha]
   rfl
 · have e:wr r=[u8 (240+r/64/64/64),u8 (128+r/64/64%64),u8 (128+r/64%64),u8 (128+r%64)]:=by unfold wr;rw[wrI4 (by omega)];rfl
   have v0:=zDy (x:=240+r/64/64/64) (by omega) (by omega);have v1:=zDy (x:=128+r/64/64%64) (by omega) (by omega);have v2:=zDy (x:=128+r/64%64) (by omega) (by omega);have v3:=zDy (x:=128+r%64) (by omega) (by omega);rw[e,wrI4 (by omega)];generalize hl:[u8 (240+r/64/64/64),u8 (128+r/64/64%64),u8 (128+r/64%64),u8 (128+r%64)]++t=l;(have b0:bt l 0=240+r/64/64/64:=by rw[←hl];exact v0);(have b1:bt l 1=128+r/64/64%64:=by rw[←hl];exact v1);(have b2:bt l 2=128+r/64%64:=by rw[←hl];exact v2);(have b3:bt l 3=128+r%64:=by rw[←hl];exact v3);(have hn:4≤l.length:=by rw[←hl];simp);have ha:acc (ldOf 4) l 4=r:=by show acc 240 l 4=r;rw[acc4,b0,b1,b2,b3];omega
   rw[zQa (n:=4) (by omega) (by omega) (by rw[b0];unfold ldSz;rw[if_neg (by omega),if_neg (by omega),if_neg (by omega),if_neg (by omega),if_pos (by omega)];rfl) hn
    (fun j x y => by obtain rfl | rfl | rfl : j = 1 ∨ j = 2 ∨ j = 3 := by omega
                     · rw[b1];omega
                     · rw[b2];omega
                     · rw[b3];omega) (by rw[ha];show(65536:Int)≤r;omega) (by rw[ha];exact h),ha]
   rfl
theorem take1{l:List UInt8}(h:l≠[]):[u8 (bt l 0)]++l.drop 1=l:=by
 cases l with
 |nil=>exact absurd rfl h
 |cons b t=>simp[zJ1 b (zLd b t)]
theorem take2{l:List UInt8}(h:2≤l.length):[u8 (bt l 0),u8 (bt l 1)]++l.drop 2=l:=by
 cases l with
 |nil=>simp at h
 |cons b t=>
  have:=take1 (l:=t) (by intro e;subst e;simp at h);simp[zJ1 b (zLd b t),zGo b t 0]at *;exact this
theorem take3{l:List UInt8}(h:3≤l.length):[u8 (bt l 0),u8 (bt l 1),u8 (bt l 2)]++l.drop 3=l:=by
 cases l with
 |nil=>simp at h
 |cons b t=>
  have:=take2 (l:=t) (by simpa using h);simp[zJ1 b (zLd b t),zGo b t 0,zGo b t 1]at *;exact this
theorem take4{l:List UInt8}(h:4≤l.length):[u8 (bt l 0),u8 (bt l 1),u8 (bt l 2),u8 (bt l 3)]++l.drop 4=l:=by
 cases l with
 |nil=>simp at h
 |cons b t=>
  have:=take3 (l:=t) (by simpa using h);simp[zJ1 b (zLd b t),zGo b t 0,zGo b t 1,zGo b t 2]at *;exact this
theorem zUc{l:List UInt8}(hl:l≠[]){r:Int}{n:Nat}(h:rd l=(r,n))(hn:n≠0):isR r=true∧n=(wrI r).length∧l=wr r++l.drop n:=by
 have hr:isR r=true:=by have:=rd_isR (l:=l) (by rw[h];exact hn);rw[h]at this;exact this
 have hbd:=of_decide_eq_true hr;have c0:=zXa l 0;refine⟨hr,?_⟩;revert h;unfold rd;by_cases a:bt l 0<128
 · rw[if_pos a]
   intro e;obtain⟨rfl,rfl⟩:=Prod.mk.inj e;refine⟨by rw[wrI1 a];rfl,?_⟩;unfold wr;rw[wrI1 a];exact(take1 hl).symm
 rw[if_neg a]
 split
 · rename_i c
   intro e;obtain⟨rfl,rfl⟩:=Prod.mk.inj e;rw[acc2]at *;have e1:=wrI2 (r:=(bt l 0-192)*64+(bt l 1-128)) (by omega) (by omega);refine⟨by rw[e1];rfl,?_⟩;unfold wr;rw[e1];(have f0:192+((bt l 0-192)*64+(bt l 1-128))/64=bt l 0:=by omega);(have f1:128+((bt l 0-192)*64+(bt l 1-128))%64=bt l 1:=by omega);rw[f0,f1];exact(take2 c.2.2.1).symm
 split
 · rename_i c
   intro e;obtain⟨rfl,rfl⟩:=Prod.mk.inj e;rw[acc3]at *;have e1:=wrI3 (r:=((bt l 0-224)*64+(bt l 1-128))*64+(bt l 2-128)) (by omega) (by omega);refine⟨by rw[e1];rfl,?_⟩;unfold wr;rw[e1];(have f0:224+(((bt l 0-224)*64+(bt l 1-128))*64+(bt l 2-128))/64/64=bt l 0:=by omega);(have f1:128+(((bt l 0-224)*64+(bt l 1-128))*64+(bt l 2-128))/64%64=bt l 1:=by omega);(have f2:128+(((bt l 0-224)*64+(bt l 1-128))*64+(bt l 2-128))%64=bt l 2:=by omega);rw[f0,f1,f2];exact(take3 c.2.2.1).symm
 split
 · rename_i c
   intro e;obtain⟨rfl,rfl⟩:=Prod.mk.inj e;rw[acc4]at *;have e1:=wrI4 (r:=(((bt l 0-240)*64+(bt l 1-128))*64+(bt l 2-128))*64+(bt l 3-128)) (by omega);refine⟨by rw[e1];rfl,?_⟩;unfold wr;rw[e1];(have f0:240+((((bt l 0-240)*64+(bt l 1-128))*64+(bt l 2-128))*64+(bt l 3-128))/64/64/64=bt l 0:=by omega);(have f1:128+((((bt l 0-240)*64+(bt l 1-128))*64+(bt l 2-128))*64+(bt l 3-128))/64/64%64=bt l 1:=by omega);(have f2:128+((((bt l 0-240)*64+(bt l 1-128))*64+(bt l 2-128))*64+(bt l 3-128))/64%64=bt l 2:=by omega);(have f3:128+((((bt l 0-240)*64+(bt l 1-128))*64+(bt l 2-128))*64+(bt l 3-128))%64=bt l 3:=by omega);rw[f0,f1,f2,f3];exact(take4 c.2.2.1).symm
 intro e;exact absurd (Prod.mk.inj e).2.symm hn
end Nums
namespace Nums
theorem pair_eta(p:Int×Nat):p=(p.1,p.2):=by cases p;rfl
theorem zT3:∀(f:Nat) (l:List UInt8) (xs:List Int),rsF f l=some xs→xs.all isR=true∧xs.flatMap wr=l:=by
 intro f
 induction f with
 |zero=>
  intro l xs h;simp only[rsF]at h;by_cases e:l=[]
  · rw[if_pos e]at h;obtain rfl:=Option.some.inj h;subst e;simp
  · rw[if_neg e]at h;cases h
 |succ f ih=>
  intro l xs h;simp only[rsF]at h;by_cases e:l=[]
  · rw[if_pos e]at h;obtain rfl:=Option.some.inj h;subst e;simp
  rw[if_neg e]at h;by_cases z:(rd l).2=0
  · rw[if_pos z]at h;cases h
  rw[if_neg z]at h;cases h2:rsF f (l.drop (rd l).2)with
  |none=>rw[h2]at h;cases h
  |some t=>
   rw[h2]at h;obtain rfl:=Option.some.inj h;obtain⟨h3,h4⟩:=ih _ _ h2;obtain⟨hr,_,hb⟩:=zUc e (pair_eta (rd l)) z;refine⟨by simp only[List.all_cons,hr,h3,Bool.and_self],?_⟩;rw[List.flatMap_cons,h4];exact hb.symm
theorem zEi{l:List UInt8}{xs:List Int}(h:rs l=some xs):xs.all isR=true∧xs.flatMap wr=l:=zT3 _ _ _ h
theorem wr_ne(r:Int):wr r≠[]:=by
 intro e;have h:=zLq r;rw[e]at h;have:=zJx r;simp at h;omega
theorem rs_wr{r:Int}(hr:isR r=true)(t:List UInt8):rs (wr r++t)=(rs t).map (fun xs=>r::xs):=by
 have h:=rd_wr hr t;have hn:wr r++t≠[]:=by
  intro e;exact wr_ne r (List.append_eq_nil_iff.1 e).1
 have hl:=zJx r;rw[zT2 hn (by rw[h];show(wrI r).length≠0;omega),h];show(rs ((wr r++t).drop (wrI r).length)).map _=_;rw[←zLq r,List.drop_left]
theorem zP3:∀(xs:List Int),xs.all isR=true→∀t,rs (xs.flatMap wr++t)=(rs t).map (fun ys=>xs++ys)
 |[],_,t=>by simp
 |x::xs,h,t=>by
  have h1:isR x=true:=by simp at h;exact h.1
  have h2:xs.all isR=true:=by simp at h;simpa using h.2
  rw[List.flatMap_cons,List.append_assoc,rs_wr h1,zP3 xs h2 t];cases rs t<;>simp
theorem rs_text{xs:List Int}(h:xs.all isR=true):rs (xs.flatMap wr)=some xs:=by
 have:=zP3 xs h [];rw[List.append_nil,rs_nil]at this;simpa using this
theorem zSm(xs:List Int):(xs.flatMap wrI).map (fun n=>UInt8.ofNat n.toNat)=xs.flatMap wr:=by
 induction xs with
 |nil=>rfl
 |cons x r ih=>rw[List.flatMap_cons,List.flatMap_cons,List.map_append,ih];rfl
end Nums
namespace Nums
def lexL:List Int→List Int→Bool
 |_,[]=>false
 |[],_::_=>true
 |a::x,b::y=>decide (a<b)||(decide (a=b)&&lexL x y)
theorem zEm(x:List Int):lexL x []=false:=by cases x<;>rfl
theorem zCs(a b:Int)(x y:List Int):lexL (a::x) (b::y)=(decide (a<b)||(decide (a=b)&&lexL x y)):=rfl
theorem zD9(a:Int)(x y:List Int):lexL (a::x) (a::y)=lexL x y:=by simp[zCs]
theorem zQr:∀(p x y:List Int),lexL (p++x) (p++y)=lexL x y
 |[],_,_=>rfl
 |a::p,x,y=>by rw[List.cons_append,List.cons_append,zD9,zQr p]
theorem zJg:∀x y:List Int,lexL x y=true→lexL y x=false
 |_,[],h=>by rw[zEm]at h;cases h
 |[],_::_,_=>rfl
 |a::x,b::y,h=>by
  rw[zCs]at h ⊢;by_cases e:a=b
  · subst e
    simp at h ⊢;exact zJg x y h
  · simp[e]at h
    simp;omega
theorem zVd:∀(k:Nat) (xs ys:List Int),k<xs.length→k<ys.length→(∀j,j<k→xs.getD j 0=ys.getD j 0)→xs.getD k 0≠ys.getD k 0→lexL xs ys=decide (xs.getD k 0<ys.getD k 0)
 |_,[],_,h,_,_,_=>by simp at h
 |_,_::_,[],_,h,_,_=>by simp at h
 |0,a::x,b::y,_,_,_,hn=>by
  have hn':a≠b:=hn;rw[zCs,decide_eq_false hn'];simp
 |k+1,a::x,b::y,h1,h2,ha,hn=>by
  have e:a=b:=ha 0 (by omega);subst e;rw[zD9,zVd k x y (by simpa using h1) (by simpa using h2) (fun j hj=>by have:=ha (j+1) (by omega);simpa using this) (by simpa using hn)];simp
theorem zKv:∀(k:Nat) (xs ys:List Int),k≤xs.length→k≤ys.length→(∀j,j<k→xs.getD j 0=ys.getD j 0)→(k=xs.length∨k=ys.length)→lexL xs ys=decide (xs.length<ys.length)
 |_,xs,[],_,_,_,_=>by rw[zEm];simp
 |_,[],_::_,_,_,_,_=>by simp[lexL]
 |0,a::x,b::y,_,_,_,h=>by simp at h
 |k+1,a::x,b::y,h1,h2,ha,h=>by
  have e:a=b:=ha 0 (by omega);subst e;rw[zD9,zKv k x y (by simpa using h1) (by simpa using h2) (fun j hj=>by have:=ha (j+1) (by omega);simpa using this) (by simpa using h)];simp
def N(c:UInt8):Int:=(c.toNat:Int)
theorem zKw:∀a b:List UInt8,Op.bytesLess a b=lexL (a.map N) (b.map N)
 |_,[]=>by rw[Op.bytesLess.eq_1,List.map_nil,zEm]
 |[],_::_=>by rw[Op.bytesLess.eq_2];rfl
 |a::x,b::y=>by
  rw[Op.bytesLess.eq_3,List.map_cons,List.map_cons,zCs,zKw x y];have e1:decide (a<b)=decide (N a<N b):=decide_eq_decide.2 (by unfold N;rw[UInt8.lt_iff_toNat_lt];omega);have e2:(a==b)=decide (N a=N b):=by
   rw[Bool.eq_iff_iff,beq_iff_eq,decide_eq_true_iff];unfold N;exact⟨fun h=>by rw[h],fun h=>UInt8.toNat_inj.1 (by omega)⟩
  rw[e1,e2]
theorem zJs(l:List UInt8)(i:Nat):(l.map N).getD i 0=bt l i:=by
 unfold bt;rw[List.getD_eq_getElem?_getD,List.getElem?_map,List.getD_eq_getElem?_getD];cases l[i]?<;>rfl
theorem zTc{r:Int}(h:isR r=true):(wr r).map N=wrI r:=by
 have hb:=of_decide_eq_true h;unfold wr;rw[List.map_map];have:∀x∈wrI r,(N∘u8) x=x:=by
  intro x hx;refine zDy ?_ ?_
  all_goals
   revert hx;unfold wrI
   repeat' split
   all_goals
    intro hx;simp at hx;omega
 rw[List.map_congr_left this,List.map_id']
theorem lex_wr{x y:Int}(hx:isR x=true)(hy:isR y=true)(h:x<y)(s t:List Int):lexL (wrI x++s) (wrI y++t)=true:=by
 have bx:=of_decide_eq_true hx;have byy:=of_decide_eq_true hy;clear hx hy;have cx:(x<128∧wrI x=[x])∨(128≤x∧x<2048∧wrI x=[192+x/64,128+x%64])∨(2048≤x∧x<65536∧wrI x=[224+x/64/64,128+x/64%64,128+x%64])∨(65536≤x∧wrI x=[240+x/64/64/64,128+x/64/64%64,128+x/64%64,128+x%64]):=by
  by_cases a:x<128
  · exact .inl ⟨a,wrI1 a⟩
  by_cases b:x<2048
  · exact .inr (.inl ⟨by omega,b,wrI2 (by omega) b⟩)
  by_cases c:x<65536
  · exact .inr (.inr (.inl ⟨by omega,c,wrI3 (by omega) c⟩))
  · exact .inr (.inr (.inr ⟨by omega,wrI4 (by omega)⟩))
 have cy:(y<128∧wrI y=[y])∨(128≤y∧y<2048∧wrI y=[192+y/64,128+y%64])∨(2048≤y∧y<65536∧wrI y=[224+y/64/64,128+y/64%64,128+y%64])∨(65536≤y∧wrI y=[240+y/64/64/64,128+y/64/64%64,128+y/64%64,128+y%64]):=by
  by_cases a:y<128
  · exact .inl ⟨a,wrI1 a⟩
  by_cases b:y<2048
  · exact .inr (.inl ⟨by omega,b,wrI2 (by omega) b⟩)
  by_cases c:y<65536
  · exact .inr (.inr (.inl ⟨by omega,c,wrI3 (by omega) c⟩))
  · exact .inr (.inr (.inr ⟨by omega,wrI4 (by omega)⟩))
 rcases cx with⟨x1,ex⟩|⟨x0,x1,ex⟩|⟨x0,x1,ex⟩|⟨x0,ex⟩<;>rcases cy with⟨y1,ey⟩|⟨y0,y1,ey⟩|⟨y0,y1,ey⟩|⟨y0,ey⟩<;>rw[ex,ey] <;>
  simp only[List.cons_append,List.nil_append,zCs,Bool.or_eq_true,Bool.and_eq_true,decide_eq_true_eq]<;>omega
theorem zHu:∀(xs ys:List Int),xs.all isR=true→ys.all isR=true→lexL ((xs.flatMap wr).map N) ((ys.flatMap wr).map N)=lexL xs ys
 |xs,[],_,_=>by simp[zEm]
 |[],y::ys,_,h=>by
  have hy:isR y=true:=by simp at h;exact h.1
  rw[List.flatMap_cons,List.map_append,zTc hy];have hl:=zJx y;cases e:wrI y with
  |nil=>rw[e]at hl;simp at hl
  |cons a t=>rfl
 |x::xs,y::ys,hxs,hys=>by
  have hx:isR x=true:=by simp at hxs;exact hxs.1
  have hy:isR y=true:=by simp at hys;exact hys.1
  have hx2:xs.all isR=true:=by simp at hxs;simpa using hxs.2
  have hy2:ys.all isR=true:=by simp at hys;simpa using hys.2
  rw[List.flatMap_cons,List.flatMap_cons,List.map_append,List.map_append,zTc hx,zTc hy,zCs];by_cases e:x=y
  · subst e
    rw[zQr,zHu xs ys hx2 hy2];simp
  by_cases l:x<y
  · rw[lex_wr hx hy l];simp[l]
  · rw[zJg _ _ (lex_wr hy hx (by omega) _ _)];simp[l,e]
theorem order_rs{a b:List UInt8}{xs ys:List Int}(h1:rs a=some xs)(h2:rs b=some ys):lexL (a.map N) (b.map N)=lexL xs ys:=by
 obtain⟨p1,p2⟩:=zEi h1;obtain⟨q1,q2⟩:=zEi h2;have:=zHu xs ys p1 q1;rw[p2,q2]at this;exact this
end Nums
namespace Nums
def sd(l:List UInt8)(n:Nat):Int:=
 if n=1 then bt l 0 else if n=2 then bt l 0%32*64+bt l 1%64
 else if n=3 then (bt l 0%16*64+bt l 1%64)*64+bt l 2%64
 else ((bt l 0%8*64+bt l 1%64)*64+bt l 2%64)*64+bt l 3%64
theorem sd1(l:List UInt8):sd l 1=bt l 0:=rfl
theorem sd2(l:List UInt8):sd l 2=bt l 0%32*64+bt l 1%64:=rfl
theorem sd3(l:List UInt8):sd l 3=(bt l 0%16*64+bt l 1%64)*64+bt l 2%64:=rfl
theorem sd4(l:List UInt8):sd l 4=((bt l 0%8*64+bt l 1%64)*64+bt l 2%64)*64+bt l 3%64:=rfl
theorem rd_zero{l:List UInt8}(h:(rd l).2=0):rd l=(0,0):=by
 revert h;unfold rd;by_cases c1:bt l 0<128
 · rw[if_pos c1];intro h;cases h
 rw[if_neg c1]
 split
 · intro h;cases h
 split
 · intro h;cases h
 split
 · intro h;cases h
 intro _;rfl
theorem rd_said{l:List UInt8}(h:(rd l).2≠0):(rd l).1=sd l (rd l).2:=by
 have c0:=zXa l 0;revert h;unfold rd;by_cases c1:bt l 0<128
 · rw[if_pos c1];intro _;exact(sd1 l).symm
 rw[if_neg c1]
 split
 · rename_i c;intro _
   show acc 192 l 2=sd l 2;rw[acc2,sd2];omega
 split
 · rename_i c;intro _
   show acc 224 l 3=sd l 3;rw[acc3,sd3];omega
 split
 · rename_i c;intro _
   show acc 240 l 4=sd l 4;rw[acc4,sd4];omega
 intro h;exact absurd rfl h
theorem zWg{l:List UInt8}{n:Nat}(hn:n≤l.length)(hr:isR (sd l n)=true)(hw:wr (sd l n)=l.take n):rd l=(sd l n,n):=by
 have h:=rd_wr hr (l.drop n);rw[hw,List.take_append_drop]at h;rw[h];have:(wr (sd l n)).length=(l.take n).length:=by rw[hw]
 rw[zLq,List.length_take]at this;rw[this,Nat.min_eq_left hn]
theorem zQ3{l:List UInt8}(hl:l≠[]){n:Nat}(h1:1≤n)(h:¬(isR (sd l n)=true∧wr (sd l n)=l.take n)):(rd l).2≠n:=by
 intro e;have h0:(rd l).2≠0:=by omega
 have hs:=rd_said h0;rw[e]at hs;obtain⟨hr,hlen,hb⟩:=zUc hl (r:=sd l n) (n:=n) (Prod.ext hs e) (by omega);refine h ⟨hr,?_⟩;have e2:l.take n=(wr (sd l n)++l.drop n).take n:=congrArg (List.take n) hb;rw[e2,List.take_append_of_le_length (by rw[zLq];omega),List.take_of_length_le (by rw[zLq];omega)]
theorem sd_bd(l:List UInt8)(n:Nat):0≤sd l n∧sd l n<2097152:=by
 have c0:=zXa l 0;unfold sd;by_cases h1:n=1
 · rw[if_pos h1];omega
 rw[if_neg h1];by_cases h2:n=2
 · rw[if_pos h2];omega
 rw[if_neg h2];by_cases h3:n=3
 · rw[if_pos h3];omega
 rw[if_neg h3];omega
end Nums
section
open Go.RowKit Nums
theorem drewN3(w:World)(a b c:Nat):∃n,((w.drewN a).drewN b).drewN c=w.drewN n:=⟨a+(b+c),by rw[World.drewN_drewN,World.drewN_drewN]⟩
theorem zXw(a b:ByteArray)(w:World)(ha:a.size≤9223372036854775807)(_:b.size≤9223372036854775807):
 Calls Tryz.prog 43 #[.string a,.string b] w fun e w'=>e = .returned (.bool (lexL (a.data.toList.map N) (b.data.toList.map N)))∧∃n,w'=w.drewN n:=by
 have HA:Hid (∀i (h:i<a.size),((a[i]'h).toNat:Int)=bt a.data.toList i):=zNh a;have HB:Hid (∀i (h:i<b.size),((b[i]'h).toNat:Int)=bt b.data.toList i):=zNh b;have HM:Hid ((a.data.toList.map N).length=a.size∧(b.data.toList.map N).length=b.size):=⟨by rw[List.length_map,zAj],by rw[List.length_map,zAj]⟩;go_enter Tryz.func43,Tryz.ntmps43;go_wp2
 go_loopw [5] (fun i wr=>∃k:Nat,k≤a.size∧k≤b.size∧i = .int .i64 k∧(∀j,j<k→(a.data.toList.map N).getD j 0=(b.data.toList.map N).getD j 0)∧∃n,wr=w.drewN n) (fun i _=>a.size-(intOf i).toNat)
 case atStart=>exact⟨0,Nat.zero_le _,Nat.zero_le _,rfl,fun j h=>by omega,0,rfl⟩
 case round=>
  obtain⟨k,hk1,hk2,rfl,hall,nw,rfl⟩:=hrel;have HK:Hid (∀j,j<k→(a.data.toList.map N).getD j 0=(b.data.toList.map N).getD j 0):=hall;clear hall;by_cases hlt1:k<a.size
  · by_cases hlt2:k<b.size
    · by_cases hxy:((a[k]'hlt1).toNat:Int)=((b[k]'hlt2).toNat:Int)
      · have hn:(((a[k]'hlt1).toNat:Int) != ((b[k]'hlt2).toNat:Int))=false:=by simpa using hxy
        have HB2:Hid (∀j,j<k+1→(a.data.toList.map N).getD j 0=(b.data.toList.map N).getD j 0):=fun j h=>by
         by_cases e:j=k
         · subst e;rw[zJs,zJs,←HA.out j hlt1,←HB.out j hlt2,hxy]
         · exact HK.out j (by omega)
        clear hxy;go_wp2;go_quiet (fail);go_wp2
        go_roundw
        (case rel=>exact⟨k+1,by omega,by omega,by go_num,HB2.out,_,rfl⟩);case measure=>simp[intOf];omega
      · have hn:(((a[k]'hlt1).toNat:Int) != ((b[k]'hlt2).toNat:Int))=true:=by simpa using hxy
        have HF:Hid (lexL (a.data.toList.map N) (b.data.toList.map N)=decide (((a[k]'hlt1).toNat:Int)<((b[k]'hlt2).toNat:Int))):=by
         show lexL _ _=_;rw[zVd k _ _ (by rw[HM.out.1];exact hlt1) (by rw[HM.out.2];exact hlt2) HK.out (by rw[zJs,zJs,←HA.out k hlt1,←HB.out k hlt2];exact hxy),zJs,zJs,←HA.out k hlt1,←HB.out k hlt2]
        clear hxy;go_wp2;go_quiet (fail);go_wp2;go_quiet (fail);go_wp2;go_ret;exact⟨by rw[HF.out];first|rfl|(simp;done),drewN3 _ _ _ _⟩
    · have HF:Hid (lexL (a.data.toList.map N) (b.data.toList.map N)=decide (a.size<b.size)):=by
       show lexL _ _=_;rw[zKv k _ _ (by rw[HM.out.1];exact hk1) (by rw[HM.out.2];exact hk2) HK.out (.inr (by rw[HM.out.2];omega)),HM.out.1,HM.out.2]
      go_wp2;go_ret;exact⟨by rw[HF.out];first|rfl|(simp;done),_,by first|rfl|rw[World.drewN_drewN]⟩
  · have HF:Hid (lexL (a.data.toList.map N) (b.data.toList.map N)=decide (a.size<b.size)):=by
     show lexL _ _=_;rw[zKv k _ _ (by rw[HM.out.1];exact hk1) (by rw[HM.out.2];exact hk2) HK.out (.inl (by rw[HM.out.1];omega)),HM.out.1,HM.out.2]
    go_wp2;go_ret;exact⟨by rw[HF.out];first|rfl|(simp;done),_,by first|rfl|rw[World.drewN_drewN]⟩
theorem zXh(a b:ByteArray)(w:World)(ha:a.size≤9223372036854775807)(hb:b.size≤9223372036854775807):
 Calls Tryz.prog 43 #[.string a,.string b] w fun e w'=>e = .returned (.bool (zAa a b))∧∃n,w'=w.drewN n:=by
 have h:=zXw a b w ha hb;rw[←zKw]at h;exact h
end
namespace Ed
def lv:List Int→List Int→Nat
 |[],ys=>ys.length
 |_::xs,[]=>xs.length+1
 |x::xs,y::ys=>min (lv xs ys+if x=y then 0 else 1) (min (lv xs (y::ys)+1) (lv (x::xs) ys+1))
termination_by xs ys=>xs.length+ys.length
inductive Al:List Int→List Int→Nat→Prop
 |nil:Al [] [] 0
 |same {x:Int} {xs ys:List Int} {n:Nat}:Al xs ys n→Al (x::xs) (x::ys) n
 |sub {x y:Int} {xs ys:List Int} {n:Nat}:x≠y→Al xs ys n→Al (x::xs) (y::ys) (n+1)
 |del {x:Int} {xs ys:List Int} {n:Nat}:Al xs ys n→Al (x::xs) ys (n+1)
 |ins {y:Int} {xs ys:List Int} {n:Nat}:Al xs ys n→Al xs (y::ys) (n+1)
theorem zCr(ys:List Int):lv [] ys=ys.length:=by rw[lv]
theorem zCz(xs:List Int):lv xs []=xs.length:=by cases xs<;>rw[lv]<;>rfl
theorem zD8(x y:Int)(xs ys:List Int):lv (x::xs) (y::ys)=min (lv xs ys+if x=y then 0 else 1) (min (lv xs (y::ys)+1) (lv (x::xs) ys+1)):=by rw[lv]
theorem lv_del(x:Int)(xs ys:List Int):lv (x::xs) ys≤lv xs ys+1:=by
 cases ys with
 |nil=>rw[zCz,zCz];simp
 |cons y ys=>rw[zD8];omega
theorem lv_ins(y:Int)(xs ys:List Int):lv xs (y::ys)≤lv xs ys+1:=by
 cases xs with
 |nil=>rw[zCr,zCr];simp
 |cons x xs=>rw[zD8];omega
theorem lv_al{xs ys:List Int}{n:Nat}(h:Al xs ys n):lv xs ys≤n:=by
 induction h with
 |nil=>rw[zCr];simp
 |same _ ih=>rw[zD8,if_pos rfl];omega
 |sub hne _ ih=>rw[zD8,if_neg hne];omega
 |del _ ih=>exact Nat.le_trans (lv_del _ _ _) (by omega)
 |ins _ ih=>exact Nat.le_trans (lv_ins _ _ _) (by omega)
theorem zXg:∀ys:List Int,Al [] ys ys.length
 |[] => .nil
 |_::ys => .ins (zXg ys)
theorem zRh:∀xs:List Int,Al xs [] xs.length
 |[] => .nil
 |_::xs => .del (zRh xs)
theorem al_lv:∀(n:Nat) (xs ys:List Int),xs.length+ys.length≤n→Al xs ys (lv xs ys):=by
 intro n
 induction n with
 |zero=>
  intro xs ys h;have e1:xs=[]:=List.length_eq_zero_iff.1 (by omega);have e2:ys=[]:=List.length_eq_zero_iff.1 (by omega);subst e1;subst e2;rw[zCr];exact .nil
 |succ n ih=>
  intro xs ys h
  match xs,ys with
  |[],ys=>rw[zCr];exact zXg ys
  |x::xs,[]=>rw[zCz];exact zRh _
  |x::xs,y::ys=>
   simp only[List.length_cons]at h;have a1:=ih xs ys (by omega);have a2:=ih xs (y::ys) (by simp only[List.length_cons];omega);have a3:=ih (x::xs) ys (by simp only[List.length_cons];omega);have e:=zD8 x y xs ys;by_cases hxy:x=y
   · subst hxy
     rw[if_pos rfl]at e;by_cases c1:lv (x::xs) (x::ys)=lv xs ys
     · rw[c1];exact .same a1
     · by_cases c2:lv (x::xs) (x::ys)=lv xs (x::ys)+1
       · rw[c2];exact .del a2
       · have c3:lv (x::xs) (x::ys)=lv (x::xs) ys+1:=by omega
         rw[c3];exact .ins a3
   · rw[if_neg hxy]at e
     by_cases c1:lv (x::xs) (y::ys)=lv xs ys+1
     · rw[c1];exact .sub hxy a1
     · by_cases c2:lv (x::xs) (y::ys)=lv xs (y::ys)+1
       · rw[c2];exact .del a2
       · have c3:lv (x::xs) (y::ys)=lv (x::xs) ys+1:=by omega
         rw[c3];exact .ins a3
theorem al_is(xs ys:List Int):Al xs ys (lv xs ys):=al_lv _ xs ys (Nat.le_refl _)
theorem Al.append{a b c d:List Int}{n m:Nat}(h:Al a b n)(k:Al c d m):Al (a++c) (b++d) (n+m):=by
 induction h with
 |nil=>simpa using k
 |same _ ih=>exact .same ih
 |sub hne _ ih=>rw[show ∀n:Nat,n+1+m=n+m+1 by omega];exact .sub hne ih
 |del _ ih=>rw[show ∀n:Nat,n+1+m=n+m+1 by omega];exact .del ih
 |ins _ ih=>rw[show ∀n:Nat,n+1+m=n+m+1 by omega];exact .ins ih
theorem Al.rev{a b:List Int}{n:Nat}(h:Al a b n):Al a.reverse b.reverse n:=by
 induction h with
 |nil=>exact .nil
 |same _ ih=>rw[List.reverse_cons,List.reverse_cons];exact ih.append (.same .nil)
 |sub hne _ ih=>rw[List.reverse_cons,List.reverse_cons];exact ih.append (.sub hne .nil)
 |del _ ih=>rw[List.reverse_cons];simpa using ih.append (.del (x:=_) .nil)
 |@ins y xs ys n _ ih=>rw[List.reverse_cons];simpa using ih.append (.ins (y:=y) .nil)
theorem zQo(a b:List Int):lv a.reverse b.reverse=lv a b:=by
 have h1:=lv_al (al_is a b).rev;have h2:=lv_al (al_is a.reverse b.reverse).rev;rw[List.reverse_reverse,List.reverse_reverse]at h2;omega
theorem zU8(p q:List Int)(x y:Int):lv (p++[x]) (q++[y])=min (lv p q+if x=y then 0 else 1) (min (lv p (q++[y])+1) (lv (p++[x]) q+1)):=by
 have e:=zD8 x y p.reverse q.reverse;have r:∀(a:List Int) (z:Int),z::a.reverse=(a++[z]).reverse:=fun a z=>by simp
 rw[r,r,zQo,zQo,zQo,zQo]at e;exact e
theorem lv_bd:∀(n:Nat) (xs ys:List Int),xs.length+ys.length≤n→xs.length≤ys.length+lv xs ys∧ys.length≤xs.length+lv xs ys∧(lv xs ys≤xs.length∨lv xs ys≤ys.length):=by
 intro n
 induction n with
 |zero=>
  intro xs ys h;have e1:xs=[]:=List.length_eq_zero_iff.1 (by omega);subst e1;rw[zCr];simp
 |succ n ih=>
  intro xs ys h
  match xs,ys with
  |[],ys=>rw[zCr];simp
  |x::xs,[]=>rw[zCz];simp
  |x::xs,y::ys=>
   simp only[List.length_cons]at h ⊢;have a1:=ih xs ys (by omega);have a2:=ih xs (y::ys) (by simp only[List.length_cons];omega);have a3:=ih (x::xs) ys (by simp only[List.length_cons];omega);simp only[List.length_cons]at a2 a3;rw[zD8]
   split<;>omega
theorem lv_bds(xs ys:List Int):xs.length≤ys.length+lv xs ys∧ys.length≤xs.length+lv xs ys∧(lv xs ys≤xs.length∨lv xs ys≤ys.length):=lv_bd _ xs ys (Nat.le_refl _)
def dr(p ys:List Int):List Int:=(List.range (ys.length+1)).map fun j=>(lv p (ys.take j):Int)
theorem zH9(p ys:List Int):(dr p ys).length=ys.length+1:=by simp[dr]
theorem zM8(p ys:List Int){j:Nat}(h:j≤ys.length):(dr p ys)[j]?=some (lv p (ys.take j):Int):=by
 unfold dr;rw[List.getElem?_map,List.getElem?_range (by omega)];rfl
theorem dr_start(ys:List Int){j:Nat}(h:j≤ys.length):(dr [] ys)[j]?=some (j:Int):=by
 rw[zM8 _ _ h,zCr,List.length_take,Nat.min_eq_left h]
theorem dr_next(p ys:List Int)(r:Int){j:Nat}{s:Int}(h:ys[j]?=some s):
 lv (p++[r]) (ys.take (j+1))=min (lv p (ys.take j)+if s=r then 0 else 1) (min (lv p (ys.take (j+1))+1) (lv (p++[r]) (ys.take j)+1)):=by
 have e:ys.take (j+1)=ys.take j++[s]:=by rw[List.take_add_one,h];rfl
 rw[e,zU8];have:(if r=s then 0 else 1)=(if s=r then 0 else 1:Nat):=by
  by_cases c:r=s
  · rw[if_pos c,if_pos c.symm]
  · rw[if_neg c,if_neg (fun e=>c e.symm)]
 rw[this]
theorem dr_bd(p ys:List Int)(j:Nat):lv p (ys.take j)≤p.length+ys.length:=by
 have:=lv_bds p (ys.take j);have h2:(ys.take j).length≤ys.length:=by rw[List.length_take];omega
 omega
def lay(cs:List Int)(b:Nat)(L:List Int):List Int:=cs.take b++L++cs.drop (b+L.length)
theorem zVk(cs:List Int)(b:Nat):lay cs b []=cs:=by simp[lay]
theorem zKz{cs L:List Int}{b:Nat}(h:b+L.length≤cs.length):(lay cs b L).length=cs.length:=by
 simp[lay];omega
theorem zVl{cs L:List Int}{b i:Nat}(h:b+L.length≤cs.length)(hi:i<L.length):(lay cs b L)[b+i]?=L[i]?:=by
 unfold lay;rw[List.append_assoc,List.getElem?_append_right (by rw[List.length_take];omega),List.length_take,Nat.min_eq_left (by omega),show b+i-b=i by omega,List.getElem?_append_left hi]
theorem zVj{cs L:List Int}{b k:Nat}(h:b+L.length≤cs.length)(hk:k<b∨b+L.length≤k):(lay cs b L)[k]?=cs[k]?:=by
 unfold lay;rcases hk with hk|hk
 · rw[List.append_assoc,List.getElem?_append_left (by rw[List.length_take];omega),List.getElem?_take,if_pos hk]
 · rw[List.getElem?_append_right (by simp;omega),List.getElem?_drop]
   congr 1;simp;omega
theorem zOn{cs L:List Int}{b:Nat}(h:b+L.length<cs.length)(x:Int):(lay cs b L).set (b+L.length) x=lay cs b (L++[x]):=by
 have hl:(cs.take b++L).length=b+L.length:=by simp;omega
 unfold lay;rw[List.set_append_right _ _ (by rw[hl];exact Nat.le_refl _),hl,Nat.sub_self,List.drop_eq_getElem_cons h,List.set_cons_zero];simp[Nat.add_assoc]
def rsE(l:List UInt8):Option (List Int):=match Nums.rs l with|some xs=>if xs.length≤1024 then some xs else none|none=>none
theorem zKc{l:List UInt8}{xs:List Int}(h:Nums.rs l=some xs)(hl:xs.length≤1024):rsE l=some xs:=by unfold rsE;rw[h];simp[hl]
theorem zP5{l:List UInt8}{xs:List Int}(h:Nums.rs l=some xs)(hl:¬xs.length≤1024):rsE l=none:=by unfold rsE;rw[h];simp[hl]
theorem zP4{l:List UInt8}(h:Nums.rs l=none):rsE l=none:=by unfold rsE;rw[h]
theorem rsE_far{l:List UInt8}(h:4096<l.length):rsE l=none:=by
 cases e:Nums.rs l with
 |none=>exact zP4 e
 |some xs=>exact zP5 e (by have:=(Nums.rs_len e).1;omega)
theorem zT4{l:List UInt8}{xs:List Int}(h:rsE l=some xs):Nums.rs l=some xs∧xs.length≤1024:=by
 unfold rsE at h;cases e:Nums.rs l with
 |none=>rw[e]at h;cases h
 |some ys=>
  rw[e]at h;simp only at h;by_cases c:ys.length≤1024
  · rw[if_pos c]at h;obtain rfl:=Option.some.inj h;exact⟨rfl,c⟩
  · rw[if_neg c]at h;cases h
def dsE(a b:List UInt8):Option Nat:=match rsE a,rsE b with|some x,some y=>some (lv x y)|_,_=>none
theorem zQ8{a b:List UInt8}{x y:List Int}(h1:rsE a=some x)(h2:rsE b=some y):dsE a b=some (lv x y):=by unfold dsE;rw[h1,h2]
theorem dsE_left{a b:List UInt8}(h1:rsE a=none):dsE a b=none:=by unfold dsE;rw[h1]
theorem zWn{a b:List UInt8}(h1:rsE b=none):dsE a b=none:=by unfold dsE;rw[h1];cases rsE a<;>rfl
def dsV(o:Option Nat):Value:=match o with|some n => .tuple #[.int .i64 (n:Int),.bool true]|none => .tuple #[.int .i64 0,.bool false]
end Ed
section
namespace Lv
open Ed
def mk(f:Nat→Nat):List Nat:=(List.range 25).map f
theorem zCx(f:Nat→Nat):(mk f).length=25:=by simp[mk]
theorem zHw(f:Nat→Nat){j:Nat}(h:j<25):(mk f)[j]?=some (f j):=by simp[mk,h]
theorem zDo(f:Nat→Nat){j:Nat}(h:j<25):(mk f).getD j 0=f j:=by rw[List.getD_eq_getElem?_getD,zHw f h];rfl
theorem mk_of{s:List Nat}(h:s.length=25):s=mk fun j=>s.getD j 0:=by
 apply List.ext_getElem?;intro i;by_cases hi:i<25
 · rw[zHw _ hi,List.getD_eq_getElem?_getD,List.getElem?_eq_getElem (by omega)];rfl
 · rw[List.getElem?_eq_none (by omega),List.getElem?_eq_none (by rw[zCx];omega)]
theorem zBf{f g:Nat→Nat}(h:∀j,j<25→f j=g j):mk f=mk g:=List.map_congr_left fun j hj=>h j (List.mem_range.1 hj)
theorem mk_inj{f g:Nat→Nat}(h:mk f=mk g){j:Nat}(hj:j<25):f j=g j:=by
 have:=congrArg (fun l=>l[j]?) h;simp only[zHw _ hj]at this;exact Option.some.inj this
theorem zMk(f:Nat→Nat){k:Nat}(x:Nat)(hk:k<25):(mk f).set k x=mk fun j=>if j=k then x else f j:=by
 apply List.ext_getElem?;intro i;by_cases hi:i<25
 · rw[List.getElem?_set,zHw _ hi,zHw _ hi]
   by_cases h:k=i
   · subst h;simp[zCx,hk]
   · rw[if_neg h,if_neg (fun e=>h e.symm)]
 · rw[List.getElem?_eq_none (by rw[List.length_set,zCx];omega),List.getElem?_eq_none (by rw[zCx];omega)]
theorem zUx{f:Nat→Nat}(h:∀j,j<25→f j<256):∀x∈mk f,x<256:=by
 intro x hx;obtain⟨j,hj,rfl⟩:=List.mem_map.1 hx;exact h j (List.mem_range.1 hj)
def dd(n d j:Nat):Nat:=if j≤n then d+1 else 0
theorem dd_le(n d j:Nat):dd n d j≤d+1:=by unfold dd;split<;>omega
def zE9(n d:Nat):List Nat:=mk (dd n d)
def cutF(n d:Nat)(s:List Nat)(j:Nat):Nat:=min (s.getD j 0) (dd n d j)
def cutL(n d:Nat)(s:List Nat):List Nat:=mk (cutF n d s)
def cutK(n d:Nat)(s:List Nat)(k:Nat):List Nat:=mk fun j=>if j<k then cutF n d s j else s.getD j 0
theorem zWt{n d:Nat}{s:List Nat}(h:s.length=25):cutK n d s 0=s:=by
 rw[cutK];simp only[Nat.not_lt_zero,if_false];exact(mk_of h).symm
theorem cutK_end(n d:Nat)(s:List Nat):cutK n d s 25=cutL n d s:=zBf fun _ hj=>if_pos hj
theorem cutK_get(n d:Nat)(s:List Nat){k:Nat}(h:k<25):(cutK n d s k).getD k 0=s.getD k 0:=by
 rw[cutK,zDo _ h];simp
theorem zWu(n d:Nat)(s:List Nat){k:Nat}(h:k<25):(cutK n d s k).set k (cutF n d s k)=cutK n d s (k+1):=by
 rw[cutK,zMk _ _ h];refine zBf fun j _=>?_
 by_cases h1:j=k
 · subst h1;simp
 · rw[if_neg h1]
   by_cases h2:j<k
   · rw[if_pos h2,if_pos (by omega)]
   · rw[if_neg h2,if_neg (by omega)]
theorem zDs(n d:Nat)(s:List Nat):(cutL n d s).length=25:=zCx _
theorem cutK_len(n d:Nat)(s:List Nat)(k:Nat):(cutK n d s k).length=25:=zCx _
theorem zWv(n d:Nat)(s:List Nat)(j:Nat):cutF n d s j≤d+1:=Nat.le_trans (Nat.min_le_right _ _) (dd_le _ _ _)
def risK(k:Nat):List Nat:=mk fun j=>if j<k then j else 0
def zFh(n d:Nat):List Nat:=cutL n d (mk fun j=>j)
theorem zT8:risK 0=mk fun _=>0:=zBf fun j _=>by simp
theorem risK_end:risK 25=mk fun j=>j:=zBf fun _ hj=>if_pos hj
theorem zT9{k:Nat}(h:k<25):(risK k).set k k=risK (k+1):=by
 rw[risK,zMk _ _ h];refine zBf fun j _=>?_
 by_cases h1:j=k
 · subst h1;simp
 · rw[if_neg h1]
   by_cases h2:j<k
   · rw[if_pos h2,if_pos (by omega)]
   · rw[if_neg h2,if_neg (by omega)]
def nx(xs:List Int)(r:Int)(c:List Nat):Nat→Nat
 |0=>c.getD 0 0+1
 |j+1=>min (c.getD j 0+if xs.getD j 0=r then 0 else 1) (min (c.getD (j+1) 0+1) (nx xs r c j+1))
theorem nx_le{xs:List Int}{r:Int}{c:List Nat}{d:Nat}(h:∀j,c.getD j 0≤d+1)(j:Nat):nx xs r c j≤d+2:=by
 cases j with
 |zero=>have:=h 0;simp only[nx];omega
 |succ j=>have:=h (j+1);simp only[nx];omega
def nxK(xs:List Int)(r:Int)(c:List Nat)(k:Nat):List Nat:=mk fun j=>if j≤k then nx xs r c j else 0
theorem zGf(xs:List Int)(r:Int)(c:List Nat)(k:Nat):(nxK xs r c k).length=25:=zCx _
theorem nxK_get(xs:List Int)(r:Int)(c:List Nat){k:Nat}(h:k<25):(nxK xs r c k).getD k 0=nx xs r c k:=by
 rw[nxK,zDo _ h];simp
theorem zQj(xs:List Int)(r:Int)(c:List Nat){k:Nat}(h:k+1<25):(nxK xs r c k).set (k+1) (nx xs r c (k+1))=nxK xs r c (k+1):=by
 rw[nxK,zMk _ _ h];refine zBf fun j _=>?_
 by_cases h1:j=k+1
 · subst h1;simp
 · rw[if_neg h1]
   by_cases h2:j≤k
   · rw[if_pos h2,if_pos (by omega)]
   · rw[if_neg h2,if_neg (by omega)]
def stepL(xs:List Int)(d:Nat)(s:List Nat)(r:Int):List Nat:=cutL xs.length d (nxK xs r (cutL xs.length d s) xs.length)
theorem zHm(xs:List Int)(d:Nat)(s:List Nat)(r:Int):(stepL xs d s r).length=25:=zCx _
theorem zGa(n d:Nat):(zFh n d).length=25:=zCx _
theorem zG8{n d:Nat}{s:List Nat}{j:Nat}(h:j<25):(cutL n d s).getD j 0=cutF n d s j:=zDo _ h
theorem zOo(n d:Nat)(s:List Nat)(j:Nat):(cutL n d s).getD j 0≤d+1:=by
 by_cases h:j<25
 · rw[zG8 h];exact zWv _ _ _ _
 · rw[List.getD_eq_getElem?_getD,List.getElem?_eq_none (by rw[zDs];omega)];exact Nat.zero_le _
def rx(xs:List Int)(d:Nat)(r:Int)(s:List Nat):Nat→Nat
 |0=>min (min (s.getD 0 0) (d+1)+1) (d+1)
 |j+1=>min (min (min (min (s.getD j 0) (d+1)+if xs.getD j 0=r then 0 else 1) (min (s.getD (j+1) 0) (d+1)+1)) (rx xs d r s j+1)) (d+1)
def rxK(xs:List Int)(d:Nat)(r:Int)(s:List Nat)(k:Nat):List Nat:=mk fun j=>if j<k then rx xs d r s j else 0
theorem rxK_get(xs:List Int)(d:Nat)(r:Int)(s:List Nat){j k:Nat}(h:j<25)(hk:j<k):(rxK xs d r s k).getD j 0=rx xs d r s j:=by
 rw[rxK,zDo _ h,if_pos hk]
theorem rx_nx(xs:List Int)(d:Nat)(r:Int)(s:List Nat)(hn:xs.length≤24):∀j,j≤xs.length→rx xs d r s j=min (nx xs r (cutL xs.length d s) j) (d+1)
 |0,_=>by
  simp only[rx,nx,zG8 (show 0<25 by omega),cutF,dd,Nat.zero_le,if_true]
 |j+1,h=>by
  have ih:=rx_nx xs d r s hn j (by omega);simp only[rx,nx];rw[ih,zG8 (show j<25 by omega),zG8 (show j+1<25 by omega)];simp only[cutF,dd,if_pos h,if_pos (show j≤xs.length by omega)];omega
theorem zPy{xs:List Int}(d:Nat)(r:Int)(s:List Nat)(hn:xs.length≤24):rxK xs d r s (xs.length+1)=stepL xs d s r:=by
 refine zBf fun j hj=>?_
 by_cases h:j≤xs.length
 · rw[if_pos (by omega),rx_nx xs d r s hn j h,cutF,nxK,zDo _ hj,if_pos h,dd,if_pos h]
 · rw[if_neg (by omega),cutF,dd,if_neg h];omega
def rowF(xs:List Int)(d:Nat)(t:List Int)(j:Nat):Nat:=min (lv t (xs.take j)) (d+1)
def rowK(xs:List Int)(d:Nat)(t:List Int)(k:Nat):List Nat:=mk fun j=>if j<k then rowF xs d t j else 0
def rowL(xs:List Int)(d:Nat)(t:List Int):List Nat:=rowK xs d t (xs.length+1)
theorem zBx(xs:List Int)(d:Nat)(t:List Int):(rowL xs d t).length=25:=zCx _
theorem zTu{xs:List Int}(d:Nat):zFh xs.length d=rowL xs d []:=by
 unfold zFh cutL rowL rowK;refine zBf fun j hj=>?_
 rw[cutF,zDo _ hj];by_cases h:j≤xs.length
 · rw[if_pos (by omega),dd,if_pos h,rowF,zCr,List.length_take,Nat.min_eq_left h]
 · rw[if_neg (by omega),dd,if_neg h];omega
theorem zFj{xs:List Int}(d:Nat)(t:List Int)(hn:xs.length≤24){j:Nat}(h:j≤xs.length):(rowL xs d t).getD j 0=rowF xs d t j:=by
 rw[rowL,rowK,zDo _ (by omega),if_pos (by omega)]
theorem rx_row{xs:List Int}(d:Nat)(t:List Int)(r:Int)(hn:xs.length≤24):∀j,j≤xs.length→rx xs d r (rowL xs d t) j=rowF xs d (t++[r]) j
 |0,_=>by
  simp only[rx,zFj d t hn (Nat.zero_le _),rowF,List.take_zero,zCz,List.length_append,List.length_singleton];omega
 |j+1,h=>by
  have ih:=rx_row d t r hn j (by omega);obtain⟨x,hx⟩:∃x,xs[j]?=some x:=⟨_,List.getElem?_eq_getElem (by omega)⟩;have ht:xs.take (j+1)=xs.take j++[x]:=by rw[List.take_add_one,hx];rfl
  have hg:xs.getD j 0=x:=by rw[List.getD_eq_getElem?_getD,hx];rfl
  simp only[rx];rw[ih,zFj d t hn (show j≤xs.length by omega),zFj d t hn h,hg];simp only[rowF];rw[ht,zU8];by_cases e:x=r
  · rw[if_pos e,if_pos e.symm];omega
  · rw[if_neg e,if_neg (fun h=>e h.symm)];omega
theorem zPx{xs:List Int}(d:Nat)(t:List Int)(r:Int)(hn:xs.length≤24):stepL xs d (rowL xs d t) r=rowL xs d (t++[r]):=by
 rw[←zPy d r _ hn];unfold rxK rowL rowK;refine zBf fun j hj=>?_
 by_cases h:j<xs.length+1
 · rw[if_pos h,if_pos h];exact rx_row d t r hn j (by omega)
 · rw[if_neg h,if_neg h]
def zNb(n d:Nat)(s:List Nat):Nat:=if s.getD n 0≤d then s.getD n 0 else 0
def zIw(n d:Nat)(s:List Nat):Bool:=decide (s.getD n 0≤d)
def zC4(n d:Nat)(s:List Nat):Bool:=!decide (cutL n d s=zE9 n d)
theorem zIi{n d:Nat}{s:List Nat}(hn:n≤24):zC4 n d s=false↔∀j,j≤n→d<s.getD j 0:=by
 unfold zC4;simp only[Bool.not_eq_false',decide_eq_true_eq];constructor
 · intro h j hj
   have:=mk_inj h (show j<25 by omega);rw[cutF,dd,if_pos hj]at this;omega
 · intro h
   (refine zBf fun j _=>?_);rw[cutF];by_cases hj:j≤n
   · have:=h j hj
     rw[dd,if_pos hj];omega
   · rw[dd,if_neg hj];omega
theorem zN9{xs:List Int}{d:Nat}{s:List Nat}(r:Int)(h:∀j,j≤xs.length→d<s.getD j 0):∀j,j≤xs.length→rx xs d r s j=d+1
 |0,_=>by have:=h 0 (Nat.zero_le _);simp only[rx];omega
 |j+1,hj=>by
  have ih:=zN9 r h j (by omega);have h1:=h j (by omega);have h2:=h (j+1) hj;simp only[rx];rw[ih];omega
theorem zL3{xs:List Int}(d:Nat)(r:Int)(s:List Nat)(hn:xs.length≤24){j:Nat}(h:j≤xs.length):(stepL xs d s r).getD j 0=rx xs d r s j:=by
 rw[←zPy d r s hn,rxK_get _ _ _ _ (by omega) (by omega)]
theorem zWp{xs:List Int}{d:Nat}{s:List Nat}(r:Int)(hn:xs.length≤24)(h:zC4 xs.length d s=false):zC4 xs.length d (stepL xs d s r)=false∧zIw xs.length d (stepL xs d s r)=false:=by
 have h1:=(zIi hn).1 h;refine⟨(zIi hn).2 fun j hj=>?_,?_⟩
 · rw[zL3 d r s hn hj,zN9 r h1 j hj];omega
 · rw[zIw,zL3 d r s hn (Nat.le_refl _),zN9 r h1 _ (Nat.le_refl _)];simp
theorem dist_row{xs:List Int}(d:Nat)(t:List Int)(hn:xs.length≤24):zIw xs.length d (rowL xs d t)=decide (lv t xs≤d)∧(lv t xs≤d→zNb xs.length d (rowL xs d t)=lv t xs):=by
 have e:(rowL xs d t).getD xs.length 0=min (lv t xs) (d+1):=by rw[zFj d t hn (Nat.le_refl _),rowF,List.take_length]
 refine⟨?_,fun h=>?_⟩
 · rw[zIw,e];apply decide_eq_decide.2;omega
 · rw[zNb,e,if_pos (by omega)];omega
end Lv
end
section
open Go.RowKit Pm
namespace Bt
abbrev Mt:=ByteArray×(Int×Int)
def btr(a b:Mt):Bool:=if a.2.2=b.2.2 then (if a.2.1=b.2.1 then zAa a.1 b.1 else decide (b.2.1<a.2.1))else decide (a.2.2<b.2.2)
theorem zDu:STO btr:=by
 refine⟨fun a=>?_,fun a b c h1 h2=>?_,fun a b h1 h2=>?_⟩
 · unfold btr;rw[if_pos rfl,if_pos rfl];exact lessB_sto.1 _
 · unfold btr at h1 h2 ⊢
   by_cases e1:a.2.2=b.2.2
   · rw[if_pos e1]at h1
     by_cases e2:b.2.2=c.2.2
     · rw[if_pos e2]at h2
       rw[if_pos (e1.trans e2)];by_cases f1:a.2.1=b.2.1
       · rw[if_pos f1]at h1
         by_cases f2:b.2.1=c.2.1
         · rw[if_pos f2]at h2
           rw[if_pos (f1.trans f2)];exact lessB_sto.2 _ _ _ h1 h2
         · rw[if_neg f2]at h2
           rw[if_neg (by rw[f1];exact f2),f1];exact h2
       · rw[if_neg f1]at h1
         by_cases f2:b.2.1=c.2.1
         · rw[if_neg (by rw[←f2];exact f1),←f2];exact h1
         · rw[if_neg f2]at h2
           simp only[decide_eq_true_eq]at h1 h2;rw[if_neg (by omega)];simp only[decide_eq_true_eq];omega
     · rw[if_neg e2]at h2
       rw[if_neg (by rw[e1];exact e2),e1];exact h2
   · rw[if_neg e1]at h1
     by_cases e2:b.2.2=c.2.2
     · rw[if_neg (by rw[←e2];exact e1),←e2];exact h1
     · rw[if_neg e2]at h2
       simp only[decide_eq_true_eq]at h1 h2;rw[if_neg (by omega)];simp only[decide_eq_true_eq];omega
 · unfold btr at h1 h2
   by_cases e1:a.2.2=b.2.2
   · rw[if_pos e1]at h1
     rw[if_pos e1.symm]at h2;by_cases f1:a.2.1=b.2.1
     · rw[if_pos f1]at h1
       rw[if_pos f1.symm]at h2;have:=lessB_sto.3 _ _ h1 h2;exact Prod.ext this (Prod.ext f1 e1)
     · rw[if_neg f1]at h1
       rw[if_neg (fun e=>f1 e.symm)]at h2;simp only[decide_eq_false_iff_not]at h1 h2;omega
   · rw[if_neg e1]at h1
     rw[if_neg (fun e=>e1 e.symm)]at h2;simp only[decide_eq_false_iff_not]at h1 h2;omega
theorem asy{a b:Mt}(h:btr a b=true):btr b a=false:=by
 cases e:btr b a
 · rfl
 · have:=zDu.2 _ _ _ h e;rw[zDu.1]at this;cases this
theorem zD7{a b c:Mt}(h1:btr a b=false)(h2:btr b c=false):btr a c=false:=by
 cases e:btr a c
 · rfl
 · cases f:btr b a
   · have:=zDu.3 _ _ h1 f;subst this;rw[h2]at e;cases e
   · have:=zDu.2 _ _ _ f e;rw[h2]at this;cases this
def el(h:List Mt)(i:Nat):Mt:=(h[i]?).getD (.empty,0,0)
theorem zWm{h:List Mt}{i:Nat}(hi:i<h.length):h[i]?=some (el h i):=by
 unfold el;rw[List.getElem?_eq_getElem hi];rfl
theorem el_set(h:List Mt)(i:Nat)(x:Mt)(k:Nat)(hi:i<h.length):el (h.set i x) k=if k=i then x else el h k:=by
 unfold el;rw[List.getElem?_set];by_cases e:k=i
 · subst e;rw[if_pos rfl,if_pos hi,if_pos rfl];rfl
 · rw[if_neg (fun e'=>e e'.symm),if_neg e]
def swp(h:List Mt)(i j:Nat):List Mt:=(h.set i (el h j)).set j (el h i)
theorem zF9(h:List Mt)(i j:Nat):(swp h i j).length=h.length:=by simp[swp]
theorem zM7(h:List Mt)(i j k:Nat)(hi:i<h.length)(hj:j<h.length):el (swp h i j) k=if k=j then el h i else if k=i then el h j else el h k:=by
 unfold swp;rw[el_set _ _ _ _ (by simpa using hj),el_set _ _ _ _ hi]
theorem zJ5(h:List Mt)(i j:Nat)(hi:i<h.length)(hj:j<h.length):(swp h i j).Perm h:=by
 have e:swp h i j=(h.toArray.swap i j (by simpa using hi) (by simpa using hj)).toList:=by
  rw[Array.swap_def];simp only[Array.toList_set,swp,List.getElem_toArray];have e1:el h j=h[j]:=by unfold el;rw[List.getElem?_eq_getElem hj];rfl
  have e2:el h i=h[i]:=by unfold el;rw[List.getElem?_eq_getElem hi];rfl
  rw[e1,e2]
 rw[e];have:=Array.swap_perm (xs:=h.toArray) (i:=i) (j:=j) (by simpa using hi) (by simpa using hj);simpa[Array.perm_iff_toList_perm]using this
def pa(i:Nat):Nat:=(i-1)/2
def Hp(n:Nat)(h:List Mt):Prop:=∀i,0<i→i<n→btr (el h (pa i)) (el h i)=false
structure UpJ(n:Nat)(h:List Mt)(j:Nat):Prop where
 len:n=h.length
 lt:j<n
 inv:∀i,0<i→i<n→i≠j→btr (el h (pa i)) (el h i)=false
 gra:∀c,0<c→c<n→pa c=j→0<j→btr (el h (pa j)) (el h c)=false
theorem UpJ.step{n:Nat}{h:List Mt}{j:Nat}(J:UpJ n h j)(h0:0<j)(hb:btr (el h (pa j)) (el h j)=true):UpJ n (swp h (pa j) j) (pa j):=by
 have hl:=J.len;have hj:=J.lt;have hpj:pa j<j:=by unfold pa;omega
 have S:=fun k=>zM7 h (pa j) j k (by omega) (by omega)
 refine⟨by rw[zF9];exact hl,by omega,fun k k0 kn kne=>?_,fun c c0 cn cp p0=>?_⟩
 · have hpk:pa k<k:=by unfold pa;omega
   rw[S k,S (pa k)];by_cases e1:k=j
   · subst e1
     rw[if_pos rfl,if_neg (by omega),if_pos rfl];exact asy hb
   · rw[if_neg e1]
     rw[if_neg kne];by_cases e2:pa k=j
     · rw[if_pos e2]
       exact J.gra k k0 kn e2 h0
     · rw[if_neg e2]
       by_cases e3:pa k=pa j
       · rw[if_pos e3]
         have h1:=J.inv k k0 kn e1;rw[e3]at h1;cases e:btr (el h j) (el h k)
         · rfl
         · have:=zDu.2 _ _ _ hb e;rw[h1]at this;cases this
       · rw[if_neg e3]
         exact J.inv k k0 kn e1
 · have hpp:pa (pa j)<pa j:=by unfold pa at *;omega
   rw[S c,S (pa (pa j)),if_neg (by omega),if_neg (by omega)];have h1:=J.inv (pa j) p0 (by omega) (by omega);by_cases e1:c=j
   · rw[if_pos e1];exact h1
   · rw[if_neg e1,if_neg (by intro e;rw[e]at cp;omega)]
     have h2:=J.inv c c0 cn e1;rw[cp]at h2;exact zD7 h1 h2
theorem UpJ.stop{n:Nat}{h:List Mt}{j:Nat}(J:UpJ n h j)(hb:j=0∨btr (el h (pa j)) (el h j)=false):Hp n h:=by
 intro i i0 hi;by_cases e:i=j
 · subst e
   rcases hb with e|hb
   · omega
   · exact hb
 · exact J.inv i i0 hi e
theorem UpJ.start{h:List Mt}{x:Mt}(H:Hp h.length h):UpJ (h.length+1) (h++[x]) h.length:=by
 have E:∀k,k<h.length→el (h++[x]) k=el h k:=fun k hk=>by unfold el;rw[List.getElem?_append_left hk]
 refine⟨by simp,by omega,fun i i0 hi hne=>?_,fun c c0 cn cp p0=>?_⟩
 · rw[E i (by omega),E (pa i) (by unfold pa;omega)]
   exact H i i0 (by omega)
 · exfalso;unfold pa at cp;omega
structure DnJ(n:Nat)(h:List Mt)(i:Nat):Prop where
 len:n≤h.length
 inv:∀k,0<k→k<n→pa k≠i→btr (el h (pa k)) (el h k)=false
 gra:∀c,0<c→c<n→pa c=i→0<i→btr (el h (pa i)) (el h c)=false
structure Chi(n:Nat)(h:List Mt)(i j:Nat):Prop where
 lt:j<n
 of:pa j=i
 pos:0<j
 wor:∀c,0<c→c<n→pa c=i→btr (el h j) (el h c)=false
theorem zW2{n:Nat}{h:List Mt}{i:Nat}(h1:2*i+1<n)(h2:n≤2*i+2∨btr (el h (2*i+1)) (el h (2*i+2))=false):Chi n h i (2*i+1):=by
 refine⟨h1,by unfold pa;omega,by omega,fun c c0 cn cp=>?_⟩;have:c=2*i+1∨c=2*i+2:=by unfold pa at cp;omega
 rcases this with rfl|rfl
 · exact zDu.1 _
 · rcases h2 with h2|h2
   · omega
   · exact h2
theorem chi_two{n:Nat}{h:List Mt}{i:Nat}(h1:2*i+2<n)(h2:btr (el h (2*i+1)) (el h (2*i+2))=true):Chi n h i (2*i+2):=by
 refine⟨h1,by unfold pa;omega,by omega,fun c c0 cn cp=>?_⟩;have:c=2*i+1∨c=2*i+2:=by unfold pa at cp;omega
 rcases this with rfl|rfl
 · exact asy h2
 · exact zDu.1 _
theorem DnJ.step{n:Nat}{h:List Mt}{i j:Nat}(J:DnJ n h i)(C:Chi n h i j)(hb:btr (el h i) (el h j)=true):DnJ n (swp h i j) j:=by
 have hl:=J.len;have hj:=C.lt;have hij:i<j:=by have:=C.of;have:=C.pos;unfold pa at *;omega
 have S:=fun k=>zM7 h i j k (by omega) (by omega)
 refine⟨by rw[zF9];exact hl,fun k k0 kn kne=>?_,fun c c0 cn cp p0=>?_⟩
 · have hpk:pa k<k:=by unfold pa;omega
   rw[S k,S (pa k),if_neg kne];by_cases e1:k=j
   · subst e1
     rw[if_pos C.of,if_pos rfl];exact asy hb
   · rw[if_neg e1]
     by_cases e2:k=i
     · subst e2
       rw[if_neg (by omega),if_pos rfl];exact J.gra j C.pos hj C.of k0
     · rw[if_neg e2]
       by_cases e3:pa k=i
       · rw[if_pos e3];exact C.wor k k0 kn e3
       · rw[if_neg e3];exact J.inv k k0 kn e3
 · have hjc:j<c:=by unfold pa at cp;omega
   rw[S c,S (pa j),C.of,if_neg (by omega),if_pos rfl,if_neg (by omega),if_neg (by omega)];have:=J.inv c c0 cn (by omega);rw[cp]at this;exact this
theorem DnJ.leaf{n:Nat}{h:List Mt}{i:Nat}(J:DnJ n h i)(hn:n≤2*i+1):Hp n h:=by
 intro k k0 kn;exact J.inv k k0 kn (by unfold pa;omega)
theorem DnJ.stop{n:Nat}{h:List Mt}{i j:Nat}(J:DnJ n h i)(C:Chi n h i j)(hb:btr (el h i) (el h j)=false):Hp n h:=by
 intro k k0 kn;by_cases e:pa k=i
 · rw[e];exact zD7 hb (C.wor k k0 kn e)
 · exact J.inv k k0 kn e
theorem DnJ.start{n:Nat}{h:List Mt}(hl:h.length=n+1)(H:Hp (n+1) h):DnJ n (swp h 0 n) 0:=by
 have S:=fun k=>zM7 h 0 n k (by omega) (by omega)
 refine⟨by rw[zF9];omega,fun k k0 kn kne=>?_,fun c c0 cn cp p0=>absurd p0 (Nat.lt_irrefl _)⟩;have hpk:pa k<k:=by unfold pa;omega
 rw[S k,S (pa k),if_neg (by omega),if_neg kne,if_neg (by omega),if_neg (by omega)];exact H k k0 (by omega)
theorem Hp.root{n:Nat}{h:List Mt}(H:Hp n h):∀k,k<n→btr (el h 0) (el h k)=false:=by
 intro k
 induction k using Nat.strongRecOn with
 |ind k ih=>
  intro hk;by_cases e:k=0
  · subst e;exact zDu.1 _
  · have hp:pa k<k:=by unfold pa;omega
    exact zD7 (ih (pa k) hp (by omega)) (H k (by omega) hk)
theorem Hp.take{n:Nat}{h:List Mt}(H:Hp n h):Hp n (h.take n):=by
 intro i i0 hi;have E:∀k,k<n→el (h.take n) k=el h k:=fun k hk=>by unfold el;rw[List.getElem?_take,if_pos hk]
 rw[E i hi,E (pa i) (by unfold pa;omega)];exact H i i0 hi
theorem zRz{n:Nat}{h:List Mt}(hl:h.length=n+1):h=h.take n++[el h n]:=by
 apply List.ext_getElem?;intro k;by_cases hk:k<n
 · rw[List.getElem?_append_left (by rw[List.length_take];omega),List.getElem?_take,if_pos hk]
 · by_cases e:k=n
   · subst e
     rw[List.getElem?_append_right (by rw[List.length_take];omega),List.length_take,zWm (by omega)];simp[Nat.min_eq_left (by omega:k≤h.length)]
   · rw[List.getElem?_eq_none (by omega),List.getElem?_eq_none (by rw[List.length_append,List.length_take];simp;omega)]
theorem popped{n:Nat}{h h1:List Mt}(hl:h.length=n+1)(hp:h1.Perm (swp h 0 n))(hk:el h1 n=el (swp h 0 n) n):(el h 0::h1.take n).Perm h∧el h1 n=el h 0:=by
 have hl1:h1.length=n+1:=by rw[hp.length_eq,zF9,hl]
 have e0:el h1 n=el h 0:=by rw[hk,zM7 h 0 n n (by omega) (by omega),if_pos rfl]
 refine⟨?_,e0⟩;have e1:=zRz hl1;rw[e0]at e1;have p1:(h1.take n++[el h 0]).Perm h:=by rw[←e1];exact hp.trans (zJ5 h 0 n (by omega) (by omega))
 exact(List.perm_append_singleton _ _).symm.trans p1
end Bt
namespace Bt
def ins(m:Mt):List Mt→List Mt
 |[]=>[m]
 |y::r=>if btr m y then m::y::r else y::ins m r
def Srt(l:List Mt):Prop:=l.Pairwise fun a b=>btr b a=false
theorem zG5(m:Mt):∀l:List Mt,(ins m l).Perm (m::l)
 |[] => .refl _
 |y::r=>by
  unfold ins
  split
  · exact .refl _
  · exact((zG5 m r).cons y).trans (.swap _ _ _)
theorem ins_len(m:Mt)(l:List Mt):(ins m l).length=l.length+1:=(zG5 m l).length_eq
theorem zVu(m:Mt):∀l:List Mt,Srt l→Srt (ins m l)
 |[],_=>List.pairwise_singleton _ _
 |y::r,h=>by
  have h':=List.pairwise_cons.1 h;unfold ins
  split
  · rename_i hb
    refine List.pairwise_cons.2 ⟨fun a ha=>?_,h⟩;rcases List.mem_cons.1 ha with rfl|ha
    · exact asy hb
    · exact zD7 (h'.1 a ha) (asy hb)
  · rename_i hb
    refine List.pairwise_cons.2 ⟨fun a ha=>?_,zVu m r h'.2⟩;rcases List.mem_cons.1 ((zG5 m r).mem_iff.1 ha)with rfl|ha
    · simpa using hb
    · exact h'.1 a ha
def stp(k:Nat)(o:List Mt)(m:Mt):List Mt:=(ins m o).take k
def bestF(k:Nat)(l:List Mt):List Mt:=l.foldl (stp k) []
theorem zS1(k:Nat)(l:List Mt)(m:Mt):bestF k (l++[m])=stp k (bestF k l) m:=by simp[bestF,List.foldl_append]
structure Kp(k:Nat)(out h:List Mt):Prop where
 hp:Hp h.length h
 perm:h.Perm out
 srt:Srt out
 len:out.length≤k
theorem Kp.nil(k:Nat):Kp k [] []:=⟨fun _ _ h=>by simp at h,.refl _,.nil,Nat.zero_le _⟩
theorem Kp.worst{k:Nat}{out h:List Mt}(K:Kp k out h)(h0:0<h.length):∃ini,out=ini++[el h 0]:=by
 have hne:out≠[]:=fun e=>by have:=K.perm.length_eq;rw[e,List.length_nil]at this;omega
 obtain⟨ini,z,rfl⟩:∃ini z,out=ini++[z]:=⟨out.dropLast,out.getLast hne,(List.dropLast_concat_getLast hne).symm⟩;refine⟨ini,?_⟩;have hz:z∈h:=K.perm.mem_iff.2 (by simp);obtain⟨i,hi,e⟩:=List.getElem_of_mem hz;have e1:el h i=z:=by unfold el;rw[List.getElem?_eq_getElem hi,e];rfl
 have h1:=K.hp.root i hi;rw[e1]at h1;have hm:el h 0∈ini++[z]:=K.perm.mem_iff.1 (List.mem_of_getElem? (zWm h0));rcases List.mem_append.1 hm with hm|hm
 · have h2:=(List.pairwise_append.1 K.srt).2.2 _ hm z (by simp)
   rw[zDu.3 _ _ h1 h2]
 · rw[List.mem_singleton.1 hm]
theorem stp_room{k:Nat}{out:List Mt}(m:Mt)(h:out.length<k):stp k out m=ins m out:=by
 unfold stp;exact List.take_of_length_le (by rw[ins_len];omega)
theorem zVx(m:Mt):∀l:List Mt,(∀y∈l,btr m y=false)→ins m l=l++[m]
 |[],_=>rfl
 |y::r,h=>by
  unfold ins;rw[h y (by simp),if_neg (by simp),zVx m r (fun z hz=>h z (by simp[hz]))];rfl
theorem zMr(m z:Mt)(hz:btr m z=true):∀l:List Mt,ins m (l++[z])=ins m l++[z]
 |[]=>by simp[ins,hz]
 |y::r=>by
  rw[List.cons_append];unfold ins
  split
  · rfl
  · rw[zMr m z hz r];rfl
theorem stp_no{k:Nat}{ini:List Mt}{z:Mt}(m:Mt)(hs:Srt (ini++[z]))(hk:k=ini.length+1)(hb:btr m z=false):stp k (ini++[z]) m=ini++[z]:=by
 unfold stp;rw[zVx m _ (fun y hy=>by
  rcases List.mem_append.1 hy with hy|hy
  · exact zD7 hb ((List.pairwise_append.1 hs).2.2 y hy z (by simp))
  · rw[List.mem_singleton.1 hy];exact hb)]
 exact List.take_left' (by simp[hk])
theorem stp_yes{k:Nat}{ini:List Mt}{z:Mt}(m:Mt)(hk:k=ini.length+1)(hb:btr m z=true):stp k (ini++[z]) m=ins m ini:=by
 unfold stp;rw[zMr m z hb];exact List.take_left' (by rw[ins_len,hk])
theorem stp_zero(out:List Mt)(m:Mt):stp 0 out m=[]:=rfl
theorem Kp.add{k:Nat}{out h h':List Mt}(K:Kp k out h)(m:Mt)(hr:out.length<k)(hh:Hp h'.length h')(hp:h'.Perm (h++[m])):Kp k (ins m out) h':=
 ⟨hh,hp.trans ((List.perm_append_singleton m h).trans ((K.perm.cons m).trans (zG5 m out).symm)),zVu m out K.srt,by rw[ins_len];omega⟩
theorem Kp.less{k:Nat}{ini h h':List Mt}{z:Mt}(K:Kp k (ini++[z]) h)(hh:Hp h'.length h')(hp:(z::h').Perm h):Kp k ini h':=by
 refine⟨hh,?_,(List.pairwise_append.1 K.srt).1,by have:=K.len;simp at this;omega⟩;exact List.Perm.cons_inv (hp.trans (K.perm.trans (List.perm_append_singleton z ini)))
theorem Kp.same_len{k:Nat}{out h:List Mt}(K:Kp k out h):h.length=out.length:=K.perm.length_eq
end Bt
end
