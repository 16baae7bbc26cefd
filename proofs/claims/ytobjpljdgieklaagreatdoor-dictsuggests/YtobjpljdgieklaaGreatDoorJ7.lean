import Derived.Test.YtobjpljdgieklaaGreatDoorJ5
import Derived.Test.YtobjpljdgieklaaGreatDoorJ4
import Derived.Deep.QuietTactic
import Derived.BigQuiet
import Derived.Test.YtobjpljdgieklaaGreatDoorTexts
set_option maxRecDepth 100000
namespace Go.Proofs.YtobjpljdgieklaaGreatDoor
namespace Nums
theorem pair_eta(p:Int×Nat):p=(p.1,p.2):=by cases p;rfl
theorem zT2:∀(f:Nat) (l:List UInt8) (xs:List Int),rsF f l=some xs→xs.all isR=true∧xs.flatMap wr=l:=by
 intro f
 induction f with
 |zero=>
  intro l xs h;simp only[rsF]at h;by_cases e:l=[]
  · rw[if_pos e]at h;obtain rfl:=Option.some.inj h;subst e;simp
  · rw[if_neg e]at h;cases h
 |succ f ih=>
  intro l xs h;simp only[rsF]at h;by_cases e:l=[]
  · rw[if_pos e]at h;obtain rfl:=Option.some.inj h;subst e;simp
  rw[if_neg e]at h;by_cases z:(rd l).2=0
  · rw[if_pos z]at h;cases h
  rw[if_neg z]at h;cases h2:rsF f (l.drop (rd l).2)with
  |none=>rw[h2]at h;cases h
  |some t=>
   rw[h2]at h;obtain rfl:=Option.some.inj h;obtain⟨h3,h4⟩:=ih _ _ h2;obtain⟨hr,_,hb⟩:=zUd e (pair_eta (rd l)) z;refine⟨by simp only[List.all_cons,hr,h3,Bool.and_self],?_⟩;rw[List.flatMap_cons,h4];exact hb.symm
theorem zEn{l:List UInt8}{xs:List Int}(h:rs l=some xs):xs.all isR=true∧xs.flatMap wr=l:=zT2 _ _ _ h
theorem wr_ne(r:Int):wr r≠[]:=by
 intro e;have h:=zL2 r;rw[e]at h;have:=zKg r;simp at h;omega
theorem rs_wr{r:Int}(hr:isR r=true)(t:List UInt8):rs (wr r++t)=(rs t).map (fun xs=>r::xs):=by
 have h:=rd_wr hr t;have hn:wr r++t≠[]:=by
  intro e;exact wr_ne r (List.append_eq_nil_iff.1 e).1
 have hl:=zKg r;rw[zT1 hn (by rw[h];show(wrI r).length≠0;omega),h];show(rs ((wr r++t).drop (wrI r).length)).map _=_;rw[←zL2 r,List.drop_left]
theorem zP7:∀(xs:List Int),xs.all isR=true→∀t,rs (xs.flatMap wr++t)=(rs t).map (fun ys=>xs++ys)
 |[],_,t=>by simp
 |x::xs,h,t=>by
  have h1:isR x=true:=by simp at h;exact h.1
  have h2:xs.all isR=true:=by simp at h;simpa using h.2
  rw[List.flatMap_cons,List.append_assoc,rs_wr h1,zP7 xs h2 t];cases rs t<;>simp
theorem rs_text{xs:List Int}(h:xs.all isR=true):rs (xs.flatMap wr)=some xs:=by
 have:=zP7 xs h [];rw[List.append_nil,rs_nil]at this;simpa using this
theorem zSl(xs:List Int):(xs.flatMap wrI).map (fun n=>UInt8.ofNat n.toNat)=xs.flatMap wr:=by
 induction xs with
 |nil=>rfl
 |cons x r ih=>rw[List.flatMap_cons,List.flatMap_cons,List.map_append,ih];rfl
end Nums
namespace Nums
def lexL:List Int→List Int→Bool
 |_,[]=>false
 |[],_::_=>true
 |a::x,b::y=>decide (a<b)||(decide (a=b)&&lexL x y)
theorem zEq(x:List Int):lexL x []=false:=by cases x<;>rfl
theorem zCn(a b:Int)(x y:List Int):lexL (a::x) (b::y)=(decide (a<b)||(decide (a=b)&&lexL x y)):=rfl
theorem zEd(a:Int)(x y:List Int):lexL (a::x) (a::y)=lexL x y:=by simp[zCn]
theorem zQt:∀(p x y:List Int),lexL (p++x) (p++y)=lexL x y
 |[],_,_=>rfl
 |a::p,x,y=>by rw[List.cons_append,List.cons_append,zEd,zQt p]
theorem zJt:∀x y:List Int,lexL x y=true→lexL y x=false
 |_,[],h=>by rw[zEq]at h;cases h
 |[],_::_,_=>rfl
 |a::x,b::y,h=>by
  rw[zCn]at h ⊢;by_cases e:a=b
  · subst e
    simp at h ⊢;exact zJt x y h
  · simp[e]at h
    simp;omega
theorem zVg:∀(k:Nat) (xs ys:List Int),k<xs.length→k<ys.length→(∀j,j<k→xs.getD j 0=ys.getD j 0)→xs.getD k 0≠ys.getD k 0→lexL xs ys=decide (xs.getD k 0<ys.getD k 0)
 |_,[],_,h,_,_,_=>by simp at h
 |_,_::_,[],_,h,_,_=>by simp at h
 |0,a::x,b::y,_,_,_,hn=>by
  have hn':a≠b:=hn;rw[zCn,decide_eq_false hn'];simp
 |k+1,a::x,b::y,h1,h2,ha,hn=>by
  have e:a=b:=ha 0 (by omega);subst e;rw[zEd,zVg k x y (by simpa using h1) (by simpa using h2) (fun j hj=>by have:=ha (j+1) (by omega);simpa using this) (by simpa using hn)];simp
theorem zLc:∀(k:Nat) (xs ys:List Int),k≤xs.length→k≤ys.length→(∀j,j<k→xs.getD j 0=ys.getD j 0)→(k=xs.length∨k=ys.length)→lexL xs ys=decide (xs.length<ys.length)
 |_,xs,[],_,_,_,_=>by rw[zEq];simp
 |_,[],_::_,_,_,_,_=>by simp[lexL]
 |0,a::x,b::y,_,_,_,h=>by simp at h
 |k+1,a::x,b::y,h1,h2,ha,h=>by
  have e:a=b:=ha 0 (by omega);subst e;rw[zEd,zLc k x y (by simpa using h1) (by simpa using h2) (fun j hj=>by have:=ha (j+1) (by omega);simpa using this) (by simpa using h)];simp
def N(c:UInt8):Int:=(c.toNat:Int)
theorem zLe:∀a b:List UInt8,Op.bytesLess a b=lexL (a.map N) (b.map N)
 |_,[]=>by rw[Op.bytesLess.eq_1,List.map_nil,zEq]
 |[],_::_=>by rw[Op.bytesLess.eq_2];rfl
 |a::x,b::y=>by
  rw[Op.bytesLess.eq_3,List.map_cons,List.map_cons,zCn,zLe x y];have e1:decide (a<b)=decide (N a<N b):=decide_eq_decide.2 (by unfold N;rw[UInt8.lt_iff_toNat_lt];omega);have e2:(a==b)=decide (N a=N b):=by
   rw[Bool.eq_iff_iff,beq_iff_eq,decide_eq_true_iff];unfold N;exact⟨fun h=>by rw[h],fun h=>UInt8.toNat_inj.1 (by omega)⟩
  rw[e1,e2]
theorem zJ9(l:List UInt8)(i:Nat):(l.map N).getD i 0=bt l i:=by
 unfold bt;rw[List.getD_eq_getElem?_getD,List.getElem?_map,List.getD_eq_getElem?_getD];cases l[i]?<;>rfl
theorem zTe{r:Int}(h:isR r=true):(wr r).map N=wrI r:=by
 have hb:=of_decide_eq_true h;unfold wr;rw[List.map_map];have:∀x∈wrI r,(N∘u8) x=x:=by
  intro x hx;refine zD3 ?_ ?_
  all_goals
   revert hx;unfold wrI
   repeat' split
   all_goals
    intro hx;simp at hx;omega
 rw[List.map_congr_left this,List.map_id']
theorem lex_wr{x y:Int}(hx:isR x=true)(hy:isR y=true)(h:x<y)(s t:List Int):lexL (wrI x++s) (wrI y++t)=true:=by
 have bx:=of_decide_eq_true hx;have byy:=of_decide_eq_true hy;clear hx hy;have cx:(x<128∧wrI x=[x])∨(128≤x∧x<2048∧wrI x=[192+x/64,128+x%64])∨(2048≤x∧x<65536∧wrI x=[224+x/64/64,128+x/64%64,128+x%64])∨(65536≤x∧wrI x=[240+x/64/64/64,128+x/64/64%64,128+x/64%64,128+x%64]):=by
  by_cases a:x<128
  · exact .inl ⟨a,wrI1 a⟩
  by_cases b:x<2048
  · exact .inr (.inl ⟨by omega,b,wrI2 (by omega) b⟩)
  by_cases c:x<65536
  · exact .inr (.inr (.inl ⟨by omega,c,wrI3 (by omega) c⟩))
  · exact .inr (.inr (.inr ⟨by omega,wrI4 (by omega)⟩))
 have cy:(y<128∧wrI y=[y])∨(128≤y∧y<2048∧wrI y=[192+y/64,128+y%64])∨(2048≤y∧y<65536∧wrI y=[224+y/64/64,128+y/64%64,128+y%64])∨(65536≤y∧wrI y=[240+y/64/64/64,128+y/64/64%64,128+y/64%64,128+y%64]):=by
  by_cases a:y<128
  · exact .inl ⟨a,wrI1 a⟩
  by_cases b:y<2048
  · exact .inr (.inl ⟨by omega,b,wrI2 (by omega) b⟩)
  by_cases c:y<65536
  · exact .inr (.inr (.inl ⟨by omega,c,wrI3 (by omega) c⟩))
  · exact .inr (.inr (.inr ⟨by omega,wrI4 (by omega)⟩))
 rcases cx with⟨x1,ex⟩|⟨x0,x1,ex⟩|⟨x0,x1,ex⟩|⟨x0,ex⟩<;>rcases cy with⟨y1,ey⟩|⟨y0,y1,ey⟩|⟨y0,y1,ey⟩|⟨y0,ey⟩<;>rw[ex,ey] <;>
  simp only[List.cons_append,List.nil_append,zCn,Bool.or_eq_true,Bool.and_eq_true,decide_eq_true_eq]<;>omega
theorem zHy:∀(xs ys:List Int),xs.all isR=true→ys.all isR=true→lexL ((xs.flatMap wr).map N) ((ys.flatMap wr).map N)=lexL xs ys
 |xs,[],_,_=>by simp[zEq]
 |[],y::ys,_,h=>by
  have hy:isR y=true:=by simp at h;exact h.1
  rw[List.flatMap_cons,List.map_append,zTe hy];have hl:=zKg y;cases e:wrI y with
  |nil=>rw[e]at hl;simp at hl
  |cons a t=>rfl
 |x::xs,y::ys,hxs,hys=>by
  have hx:isR x=true:=by simp at hxs;exact hxs.1
  have hy:isR y=true:=by simp at hys;exact hys.1
  have hx2:xs.all isR=true:=by simp at hxs;simpa using hxs.2
  have hy2:ys.all isR=true:=by simp at hys;simpa using hys.2
  rw[List.flatMap_cons,List.flatMap_cons,List.map_append,List.map_append,zTe hx,zTe hy,zCn];by_cases e:x=y
  · subst e
    rw[zQt,zHy xs ys hx2 hy2];simp
  by_cases l:x<y
  · rw[lex_wr hx hy l];simp[l]
  · rw[zJt _ _ (lex_wr hy hx (by omega) _ _)];simp[l,e]
theorem order_rs{a b:List UInt8}{xs ys:List Int}(h1:rs a=some xs)(h2:rs b=some ys):lexL (a.map N) (b.map N)=lexL xs ys:=by
 obtain⟨p1,p2⟩:=zEn h1;obtain⟨q1,q2⟩:=zEn h2;have:=zHy xs ys p1 q1;rw[p2,q2]at this;exact this
end Nums
section
open Go.RowKit Nums
theorem drewN3(w:World)(a b c:Nat):∃n,((w.drewN a).drewN b).drewN c=w.drewN n:=⟨a+(b+c),by rw[World.drewN_drewN,World.drewN_drewN]⟩
set_option maxHeartbeats 2000000 in
theorem zX4(a b:ByteArray)(w:World)(ha:a.size≤9223372036854775807)(_:b.size≤9223372036854775807):
 Calls Tryz.prog 43 #[.string a,.string b] w fun e w'=>e = .returned (.bool (lexL (a.data.toList.map N) (b.data.toList.map N)))∧∃n,w'=w.drewN n:=by
 have HA:Hid (∀i (h:i<a.size),((a[i]'h).toNat:Int)=bt a.data.toList i):=zNk a;have HB:Hid (∀i (h:i<b.size),((b[i]'h).toNat:Int)=bt b.data.toList i):=zNk b;have HM:Hid ((a.data.toList.map N).length=a.size∧(b.data.toList.map N).length=b.size):=⟨by rw[List.length_map,zAd],by rw[List.length_map,zAd]⟩;go_enter Tryz.func43,Tryz.ntmps43;go_wp2
 go_loopw [5] (fun i wr=>∃k:Nat,k≤a.size∧k≤b.size∧i = .int .i64 k∧(∀j,j<k→(a.data.toList.map N).getD j 0=(b.data.toList.map N).getD j 0)∧∃n,wr=w.drewN n) (fun i _=>a.size-(intOf i).toNat)
 case atStart=>exact⟨0,Nat.zero_le _,Nat.zero_le _,rfl,fun j h=>by omega,0,rfl⟩
 case round=>
  obtain⟨k,hk1,hk2,rfl,hall,nw,rfl⟩:=hrel;have HK:Hid (∀j,j<k→(a.data.toList.map N).getD j 0=(b.data.toList.map N).getD j 0):=hall;clear hall;by_cases hlt1:k<a.size
  · by_cases hlt2:k<b.size
    · by_cases hxy:((a[k]'hlt1).toNat:Int)=((b[k]'hlt2).toNat:Int)
      · have hn:(((a[k]'hlt1).toNat:Int) != ((b[k]'hlt2).toNat:Int))=false:=by simpa using hxy
        have HB2:Hid (∀j,j<k+1→(a.data.toList.map N).getD j 0=(b.data.toList.map N).getD j 0):=fun j h=>by
         by_cases e:j=k
         · subst e;rw[zJ9,zJ9,←HA.out j hlt1,←HB.out j hlt2,hxy]
         · exact HK.out j (by omega)
        clear hxy;go_wp2;go_quiet (fail);go_wp2
        go_roundw
        (case rel=>exact⟨k+1,by omega,by omega,by go_num,HB2.out,_,rfl⟩);case measure=>simp[intOf];omega
      · have hn:(((a[k]'hlt1).toNat:Int) != ((b[k]'hlt2).toNat:Int))=true:=by simpa using hxy
        have HF:Hid (lexL (a.data.toList.map N) (b.data.toList.map N)=decide (((a[k]'hlt1).toNat:Int)<((b[k]'hlt2).toNat:Int))):=by
         show lexL _ _=_;rw[zVg k _ _ (by rw[HM.out.1];exact hlt1) (by rw[HM.out.2];exact hlt2) HK.out (by rw[zJ9,zJ9,←HA.out k hlt1,←HB.out k hlt2];exact hxy),zJ9,zJ9,←HA.out k hlt1,←HB.out k hlt2]
        clear hxy;go_wp2;go_quiet (fail);go_wp2;go_quiet (fail);go_wp2;go_ret;exact⟨by rw[HF.out];first|rfl|(simp;done),drewN3 _ _ _ _⟩
    · have HF:Hid (lexL (a.data.toList.map N) (b.data.toList.map N)=decide (a.size<b.size)):=by
       show lexL _ _=_;rw[zLc k _ _ (by rw[HM.out.1];exact hk1) (by rw[HM.out.2];exact hk2) HK.out (.inr (by rw[HM.out.2];omega)),HM.out.1,HM.out.2]
      go_wp2;go_ret;exact⟨by rw[HF.out];first|rfl|(simp;done),_,by first|rfl|rw[World.drewN_drewN]⟩
  · have HF:Hid (lexL (a.data.toList.map N) (b.data.toList.map N)=decide (a.size<b.size)):=by
     show lexL _ _=_;rw[zLc k _ _ (by rw[HM.out.1];exact hk1) (by rw[HM.out.2];exact hk2) HK.out (.inl (by rw[HM.out.1];omega)),HM.out.1,HM.out.2]
    go_wp2;go_ret;exact⟨by rw[HF.out];first|rfl|(simp;done),_,by first|rfl|rw[World.drewN_drewN]⟩
theorem zIp(a b:ByteArray)(w:World)(ha:a.size≤9223372036854775807)(hb:b.size≤9223372036854775807):
 Calls Tryz.prog 43 #[.string a,.string b] w fun e w'=>e = .returned (.bool (zAa a b))∧∃n,w'=w.drewN n:=by
 have h:=zX4 a b w ha hb;rw[←zLe]at h;exact h
end
namespace Ed
def lv:List Int→List Int→Nat
 |[],ys=>ys.length
 |_::xs,[]=>xs.length+1
 |x::xs,y::ys=>min (lv xs ys+if x=y then 0 else 1) (min (lv xs (y::ys)+1) (lv (x::xs) ys+1))
termination_by xs ys=>xs.length+ys.length
inductive Al:List Int→List Int→Nat→Prop
 |nil:Al [] [] 0
 |same {x:Int} {xs ys:List Int} {n:Nat}:Al xs ys n→Al (x::xs) (x::ys) n
 |sub {x y:Int} {xs ys:List Int} {n:Nat}:x≠y→Al xs ys n→Al (x::xs) (y::ys) (n+1)
 |del {x:Int} {xs ys:List Int} {n:Nat}:Al xs ys n→Al (x::xs) ys (n+1)
 |ins {y:Int} {xs ys:List Int} {n:Nat}:Al xs ys n→Al xs (y::ys) (n+1)
theorem zCm(ys:List Int):lv [] ys=ys.length:=by rw[lv]
theorem zB8(xs:List Int):lv xs []=xs.length:=by cases xs<;>rw[lv]<;>rfl
theorem zEc(x y:Int)(xs ys:List Int):lv (x::xs) (y::ys)=min (lv xs ys+if x=y then 0 else 1) (min (lv xs (y::ys)+1) (lv (x::xs) ys+1)):=by rw[lv]
theorem lv_del(x:Int)(xs ys:List Int):lv (x::xs) ys≤lv xs ys+1:=by
 cases ys with
 |nil=>rw[zB8,zB8];simp
 |cons y ys=>rw[zEc];omega
theorem lv_ins(y:Int)(xs ys:List Int):lv xs (y::ys)≤lv xs ys+1:=by
 cases xs with
 |nil=>rw[zCm,zCm];simp
 |cons x xs=>rw[zEc];omega
theorem lv_al{xs ys:List Int}{n:Nat}(h:Al xs ys n):lv xs ys≤n:=by
 induction h with
 |nil=>rw[zCm];simp
 |same _ ih=>rw[zEc,if_pos rfl];omega
 |sub hne _ ih=>rw[zEc,if_neg hne];omega
 |del _ ih=>exact Nat.le_trans (lv_del _ _ _) (by omega)
 |ins _ ih=>exact Nat.le_trans (lv_ins _ _ _) (by omega)
theorem zXn:∀ys:List Int,Al [] ys ys.length
 |[] => .nil
 |_::ys => .ins (zXn ys)
theorem zRk:∀xs:List Int,Al xs [] xs.length
 |[] => .nil
 |_::xs => .del (zRk xs)
theorem al_lv:∀(n:Nat) (xs ys:List Int),xs.length+ys.length≤n→Al xs ys (lv xs ys):=by
 intro n
 induction n with
 |zero=>
  intro xs ys h;have e1:xs=[]:=List.length_eq_zero_iff.1 (by omega);have e2:ys=[]:=List.length_eq_zero_iff.1 (by omega);subst e1;subst e2;rw[zCm];exact .nil
 |succ n ih=>
  intro xs ys h
  match xs,ys with
  |[],ys=>rw[zCm];exact zXn ys
  |x::xs,[]=>rw[zB8];exact zRk _
  |x::xs,y::ys=>
   simp only[List.length_cons]at h;have a1:=ih xs ys (by omega);have a2:=ih xs (y::ys) (by simp only[List.length_cons];omega);have a3:=ih (x::xs) ys (by simp only[List.length_cons];omega);have e:=zEc x y xs ys;by_cases hxy:x=y
   · subst hxy
     rw[if_pos rfl]at e;by_cases c1:lv (x::xs) (x::ys)=lv xs ys
     · rw[c1];exact .same a1
     · by_cases c2:lv (x::xs) (x::ys)=lv xs (x::ys)+1
       · rw[c2];exact .del a2
       · have c3:lv (x::xs) (x::ys)=lv (x::xs) ys+1:=by omega
         rw[c3];exact .ins a3
   · rw[if_neg hxy]at e
     by_cases c1:lv (x::xs) (y::ys)=lv xs ys+1
     · rw[c1];exact .sub hxy a1
     · by_cases c2:lv (x::xs) (y::ys)=lv xs (y::ys)+1
       · rw[c2];exact .del a2
       · have c3:lv (x::xs) (y::ys)=lv (x::xs) ys+1:=by omega
         rw[c3];exact .ins a3
theorem al_is(xs ys:List Int):Al xs ys (lv xs ys):=al_lv _ xs ys (Nat.le_refl _)
theorem Al.append{a b c d:List Int}{n m:Nat}(h:Al a b n)(k:Al c d m):Al (a++c) (b++d) (n+m):=by
 induction h with
 |nil=>simpa using k
 |same _ ih=>exact .same ih
 |sub hne _ ih=>rw[show ∀n:Nat,n+1+m=n+m+1 by omega];exact .sub hne ih
 |del _ ih=>rw[show ∀n:Nat,n+1+m=n+m+1 by omega];exact .del ih
 |ins _ ih=>rw[show ∀n:Nat,n+1+m=n+m+1 by omega];exact .ins ih
theorem Al.rev{a b:List Int}{n:Nat}(h:Al a b n):Al a.reverse b.reverse n:=by
 induction h with
 |nil=>exact .nil
 |same _ ih=>rw[List.reverse_cons,List.reverse_cons];exact ih.append (.same .nil)
 |sub hne _ ih=>rw[List.reverse_cons,List.reverse_cons];exact ih.append (.sub hne .nil)
 |del _ ih=>rw[List.reverse_cons];simpa using ih.append (.del (x:=_) .nil)
 |@ins y xs ys n _ ih=>rw[List.reverse_cons];simpa using ih.append (.ins (y:=y) .nil)
theorem zQq(a b:List Int):lv a.reverse b.reverse=lv a b:=by
 have h1:=lv_al (al_is a b).rev;have h2:=lv_al (al_is a.reverse b.reverse).rev;rw[List.reverse_reverse,List.reverse_reverse]at h2;omega
theorem zVb(p q:List Int)(x y:Int):lv (p++[x]) (q++[y])=min (lv p q+if x=y then 0 else 1) (min (lv p (q++[y])+1) (lv (p++[x]) q+1)):=by
 have e:=zEc x y p.reverse q.reverse;have r:∀(a:List Int) (z:Int),z::a.reverse=(a++[z]).reverse:=fun a z=>by simp
 rw[r,r,zQq,zQq,zQq,zQq]at e;exact e
theorem lv_bd:∀(n:Nat) (xs ys:List Int),xs.length+ys.length≤n→xs.length≤ys.length+lv xs ys∧ys.length≤xs.length+lv xs ys∧(lv xs ys≤xs.length∨lv xs ys≤ys.length):=by
 intro n
 induction n with
 |zero=>
  intro xs ys h;have e1:xs=[]:=List.length_eq_zero_iff.1 (by omega);subst e1;rw[zCm];simp
 |succ n ih=>
  intro xs ys h
  match xs,ys with
  |[],ys=>rw[zCm];simp
  |x::xs,[]=>rw[zB8];simp
  |x::xs,y::ys=>
   simp only[List.length_cons]at h ⊢;have a1:=ih xs ys (by omega);have a2:=ih xs (y::ys) (by simp only[List.length_cons];omega);have a3:=ih (x::xs) ys (by simp only[List.length_cons];omega);simp only[List.length_cons]at a2 a3;rw[zEc]
   split<;>omega
theorem lv_bds(xs ys:List Int):xs.length≤ys.length+lv xs ys∧ys.length≤xs.length+lv xs ys∧(lv xs ys≤xs.length∨lv xs ys≤ys.length):=lv_bd _ xs ys (Nat.le_refl _)
def dr(p ys:List Int):List Int:=(List.range (ys.length+1)).map fun j=>(lv p (ys.take j):Int)
theorem zDz(p ys:List Int):(dr p ys).length=ys.length+1:=by simp[dr]
theorem zEz(p ys:List Int){j:Nat}(h:j≤ys.length):(dr p ys)[j]?=some (lv p (ys.take j):Int):=by
 unfold dr;rw[List.getElem?_map,List.getElem?_range (by omega)];rfl
theorem zRb(ys:List Int){j:Nat}(h:j≤ys.length):(dr [] ys)[j]?=some (j:Int):=by
 rw[zEz _ _ h,zCm,List.length_take,Nat.min_eq_left h]
theorem dr_first(p ys:List Int):(dr p ys)[0]?=some (p.length:Int):=by
 rw[zEz _ _ (Nat.zero_le _),List.take_zero,zB8]
theorem zWr(p ys:List Int)(r:Int){j:Nat}{s:Int}(h:ys[j]?=some s):
 lv (p++[r]) (ys.take (j+1))=min (lv p (ys.take j)+if s=r then 0 else 1) (min (lv p (ys.take (j+1))+1) (lv (p++[r]) (ys.take j)+1)):=by
 have e:ys.take (j+1)=ys.take j++[s]:=by rw[List.take_add_one,h];rfl
 rw[e,zVb];have:(if r=s then 0 else 1)=(if s=r then 0 else 1:Nat):=by
  by_cases c:r=s
  · rw[if_pos c,if_pos c.symm]
  · rw[if_neg c,if_neg (fun e=>c e.symm)]
 rw[this]
theorem zSq(p ys:List Int)(j:Nat):lv p (ys.take j)≤p.length+ys.length:=by
 have:=lv_bds p (ys.take j);have h2:(ys.take j).length≤ys.length:=by rw[List.length_take];omega
 omega
theorem dr_last(p ys:List Int):(dr p ys)[ys.length]?=some (lv p ys:Int):=by
 rw[zEz _ _ (Nat.le_refl _),List.take_of_length_le (Nat.le_refl _)]
def lay(cs:List Int)(b:Nat)(L:List Int):List Int:=cs.take b++L++cs.drop (b+L.length)
theorem zVm(cs:List Int)(b:Nat):lay cs b []=cs:=by simp[lay]
theorem zLg{cs L:List Int}{b:Nat}(h:b+L.length≤cs.length):(lay cs b L).length=cs.length:=by
 simp[lay];omega
theorem zVn{cs L:List Int}{b i:Nat}(h:b+L.length≤cs.length)(hi:i<L.length):(lay cs b L)[b+i]?=L[i]?:=by
 unfold lay;rw[List.append_assoc,List.getElem?_append_right (by rw[List.length_take];omega),List.length_take,Nat.min_eq_left (by omega),show b+i-b=i by omega,List.getElem?_append_left hi]
theorem zVl{cs L:List Int}{b k:Nat}(h:b+L.length≤cs.length)(hk:k<b∨b+L.length≤k):(lay cs b L)[k]?=cs[k]?:=by
 unfold lay;rcases hk with hk|hk
 · rw[List.append_assoc,List.getElem?_append_left (by rw[List.length_take];omega),List.getElem?_take,if_pos hk]
 · rw[List.getElem?_append_right (by simp;omega),List.getElem?_drop]
   congr 1;simp;omega
theorem zOs{cs L:List Int}{b:Nat}(h:b+L.length<cs.length)(x:Int):(lay cs b L).set (b+L.length) x=lay cs b (L++[x]):=by
 have hl:(cs.take b++L).length=b+L.length:=by simp;omega
 unfold lay;rw[List.set_append_right _ _ (by rw[hl];exact Nat.le_refl _),hl,Nat.sub_self,List.drop_eq_getElem_cons h,List.set_cons_zero];simp[Nat.add_assoc]
def rsE(l:List UInt8):Option (List Int):=match Nums.rs l with|some xs=>if xs.length≤1024 then some xs else none|none=>none
theorem zFe{l:List UInt8}{xs:List Int}(h:Nums.rs l=some xs)(hl:xs.length≤1024):rsE l=some xs:=by unfold rsE;rw[h];simp[hl]
theorem zG5{l:List UInt8}{xs:List Int}(h:Nums.rs l=some xs)(hl:¬xs.length≤1024):rsE l=none:=by unfold rsE;rw[h];simp[hl]
theorem zG4{l:List UInt8}(h:Nums.rs l=none):rsE l=none:=by unfold rsE;rw[h]
theorem rsE_far{l:List UInt8}(h:4096<l.length):rsE l=none:=by
 cases e:Nums.rs l with
 |none=>exact zG4 e
 |some xs=>exact zG5 e (by have:=(Nums.rs_len e).1;omega)
theorem zT3{l:List UInt8}{xs:List Int}(h:rsE l=some xs):Nums.rs l=some xs∧xs.length≤1024:=by
 unfold rsE at h;cases e:Nums.rs l with
 |none=>rw[e]at h;cases h
 |some ys=>
  rw[e]at h;simp only at h;by_cases c:ys.length≤1024
  · rw[if_pos c]at h;obtain rfl:=Option.some.inj h;exact⟨rfl,c⟩
  · rw[if_neg c]at h;cases h
def dsE(a b:List UInt8):Option Nat:=match rsE a,rsE b with|some x,some y=>some (lv x y)|_,_=>none
theorem zLm{a b:List UInt8}{x y:List Int}(h1:rsE a=some x)(h2:rsE b=some y):dsE a b=some (lv x y):=by unfold dsE;rw[h1,h2]
theorem zLn{a b:List UInt8}(h1:rsE a=none):dsE a b=none:=by unfold dsE;rw[h1]
theorem zIe{a b:List UInt8}(h1:rsE b=none):dsE a b=none:=by unfold dsE;rw[h1];cases rsE a<;>rfl
def dsV(o:Option Nat):Value:=match o with|some n => .tuple #[.int .i64 (n:Int),.bool true]|none => .tuple #[.int .i64 0,.bool false]
end Ed
section
namespace Lv
open Ed
def mk(f:Nat→Nat):List Nat:=(List.range 25).map f
theorem zCr(f:Nat→Nat):(mk f).length=25:=by simp[mk]
theorem zH1(f:Nat→Nat){j:Nat}(h:j<25):(mk f)[j]?=some (f j):=by simp[mk,h]
theorem zDn(f:Nat→Nat){j:Nat}(h:j<25):(mk f).getD j 0=f j:=by rw[List.getD_eq_getElem?_getD,zH1 f h];rfl
theorem mk_of{s:List Nat}(h:s.length=25):s=mk fun j=>s.getD j 0:=by
 apply List.ext_getElem?;intro i;by_cases hi:i<25
 · rw[zH1 _ hi,List.getD_eq_getElem?_getD,List.getElem?_eq_getElem (by omega)];rfl
 · rw[List.getElem?_eq_none (by omega),List.getElem?_eq_none (by rw[zCr];omega)]
theorem zBf{f g:Nat→Nat}(h:∀j,j<25→f j=g j):mk f=mk g:=List.map_congr_left fun j hj=>h j (List.mem_range.1 hj)
theorem mk_inj{f g:Nat→Nat}(h:mk f=mk g){j:Nat}(hj:j<25):f j=g j:=by
 have:=congrArg (fun l=>l[j]?) h;simp only[zH1 _ hj]at this;exact Option.some.inj this
theorem zMu(f:Nat→Nat){k:Nat}(x:Nat)(hk:k<25):(mk f).set k x=mk fun j=>if j=k then x else f j:=by
 apply List.ext_getElem?;intro i;by_cases hi:i<25
 · rw[List.getElem?_set,zH1 _ hi,zH1 _ hi]
   by_cases h:k=i
   · subst h;simp[zCr,hk]
   · rw[if_neg h,if_neg (fun e=>h e.symm)]
 · rw[List.getElem?_eq_none (by rw[List.length_set,zCr];omega),List.getElem?_eq_none (by rw[zCr];omega)]
theorem zU2{f:Nat→Nat}(h:∀j,j<25→f j<256):∀x∈mk f,x<256:=by
 intro x hx;obtain⟨j,hj,rfl⟩:=List.mem_map.1 hx;exact h j (List.mem_range.1 hj)
def dd(n d j:Nat):Nat:=if j≤n then d+1 else 0
theorem dd_le(n d j:Nat):dd n d j≤d+1:=by unfold dd;split<;>omega
def zE6(n d:Nat):List Nat:=mk (dd n d)
def cutF(n d:Nat)(s:List Nat)(j:Nat):Nat:=min (s.getD j 0) (dd n d j)
def cutL(n d:Nat)(s:List Nat):List Nat:=mk (cutF n d s)
def cutK(n d:Nat)(s:List Nat)(k:Nat):List Nat:=mk fun j=>if j<k then cutF n d s j else s.getD j 0
theorem zWw{n d:Nat}{s:List Nat}(h:s.length=25):cutK n d s 0=s:=by
 rw[cutK];simp only[Nat.not_lt_zero,if_false];exact(mk_of h).symm
theorem cutK_end(n d:Nat)(s:List Nat):cutK n d s 25=cutL n d s:=zBf fun _ hj=>if_pos hj
theorem cutK_get(n d:Nat)(s:List Nat){k:Nat}(h:k<25):(cutK n d s k).getD k 0=s.getD k 0:=by
 rw[cutK,zDn _ h];simp
theorem zWx(n d:Nat)(s:List Nat){k:Nat}(h:k<25):(cutK n d s k).set k (cutF n d s k)=cutK n d s (k+1):=by
 rw[cutK,zMu _ _ h];refine zBf fun j _=>?_
 by_cases h1:j=k
 · subst h1;simp
 · rw[if_neg h1]
   by_cases h2:j<k
   · rw[if_pos h2,if_pos (by omega)]
   · rw[if_neg h2,if_neg (by omega)]
theorem zDt(n d:Nat)(s:List Nat):(cutL n d s).length=25:=zCr _
theorem cutK_len(n d:Nat)(s:List Nat)(k:Nat):(cutK n d s k).length=25:=zCr _
theorem zWy(n d:Nat)(s:List Nat)(j:Nat):cutF n d s j≤d+1:=Nat.le_trans (Nat.min_le_right _ _) (dd_le _ _ _)
def risK(k:Nat):List Nat:=mk fun j=>if j<k then j else 0
def zFd(n d:Nat):List Nat:=cutL n d (mk fun j=>j)
theorem zT7:risK 0=mk fun _=>0:=zBf fun j _=>by simp
theorem risK_end:risK 25=mk fun j=>j:=zBf fun _ hj=>if_pos hj
theorem zT8{k:Nat}(h:k<25):(risK k).set k k=risK (k+1):=by
 rw[risK,zMu _ _ h];refine zBf fun j _=>?_
 by_cases h1:j=k
 · subst h1;simp
 · rw[if_neg h1]
   by_cases h2:j<k
   · rw[if_pos h2,if_pos (by omega)]
   · rw[if_neg h2,if_neg (by omega)]
def nx(xs:List Int)(r:Int)(c:List Nat):Nat→Nat
 |0=>c.getD 0 0+1
 |j+1=>min (c.getD j 0+if xs.getD j 0=r then 0 else 1) (min (c.getD (j+1) 0+1) (nx xs r c j+1))
theorem nx_le{xs:List Int}{r:Int}{c:List Nat}{d:Nat}(h:∀j,c.getD j 0≤d+1)(j:Nat):nx xs r c j≤d+2:=by
 cases j with
 |zero=>have:=h 0;simp only[nx];omega
 |succ j=>have:=h (j+1);simp only[nx];omega
def nxK(xs:List Int)(r:Int)(c:List Nat)(k:Nat):List Nat:=mk fun j=>if j≤k then nx xs r c j else 0
theorem zGg(xs:List Int)(r:Int)(c:List Nat)(k:Nat):(nxK xs r c k).length=25:=zCr _
theorem nxK_get(xs:List Int)(r:Int)(c:List Nat){k:Nat}(h:k<25):(nxK xs r c k).getD k 0=nx xs r c k:=by
 rw[nxK,zDn _ h];simp
theorem zQl(xs:List Int)(r:Int)(c:List Nat){k:Nat}(h:k+1<25):(nxK xs r c k).set (k+1) (nx xs r c (k+1))=nxK xs r c (k+1):=by
 rw[nxK,zMu _ _ h];refine zBf fun j _=>?_
 by_cases h1:j=k+1
 · subst h1;simp
 · rw[if_neg h1]
   by_cases h2:j≤k
   · rw[if_pos h2,if_pos (by omega)]
   · rw[if_neg h2,if_neg (by omega)]
def stepL(xs:List Int)(d:Nat)(s:List Nat)(r:Int):List Nat:=cutL xs.length d (nxK xs r (cutL xs.length d s) xs.length)
theorem zHp(xs:List Int)(d:Nat)(s:List Nat)(r:Int):(stepL xs d s r).length=25:=zCr _
theorem zGa(n d:Nat):(zFd n d).length=25:=zCr _
theorem zHb{n d:Nat}{s:List Nat}{j:Nat}(h:j<25):(cutL n d s).getD j 0=cutF n d s j:=zDn _ h
theorem zOx(n d:Nat)(s:List Nat)(j:Nat):(cutL n d s).getD j 0≤d+1:=by
 by_cases h:j<25
 · rw[zHb h];exact zWy _ _ _ _
 · rw[List.getD_eq_getElem?_getD,List.getElem?_eq_none (by rw[zDt];omega)];exact Nat.zero_le _
def rx(xs:List Int)(d:Nat)(r:Int)(s:List Nat):Nat→Nat
 |0=>min (min (s.getD 0 0) (d+1)+1) (d+1)
 |j+1=>min (min (min (min (s.getD j 0) (d+1)+if xs.getD j 0=r then 0 else 1) (min (s.getD (j+1) 0) (d+1)+1)) (rx xs d r s j+1)) (d+1)
def rxK(xs:List Int)(d:Nat)(r:Int)(s:List Nat)(k:Nat):List Nat:=mk fun j=>if j<k then rx xs d r s j else 0
theorem rxK_get(xs:List Int)(d:Nat)(r:Int)(s:List Nat){j k:Nat}(h:j<25)(hk:j<k):(rxK xs d r s k).getD j 0=rx xs d r s j:=by
 rw[rxK,zDn _ h,if_pos hk]
theorem rx_nx(xs:List Int)(d:Nat)(r:Int)(s:List Nat)(hn:xs.length≤24):∀j,j≤xs.length→rx xs d r s j=min (nx xs r (cutL xs.length d s) j) (d+1)
 |0,_=>by
  simp only[rx,nx,zHb (show 0<25 by omega),cutF,dd,Nat.zero_le,if_true]
 |j+1,h=>by
  have ih:=rx_nx xs d r s hn j (by omega);simp only[rx,nx];rw[ih,zHb (show j<25 by omega),zHb (show j+1<25 by omega)];simp only[cutF,dd,if_pos h,if_pos (show j≤xs.length by omega)];omega
theorem zP2{xs:List Int}(d:Nat)(r:Int)(s:List Nat)(hn:xs.length≤24):rxK xs d r s (xs.length+1)=stepL xs d s r:=by
 refine zBf fun j hj=>?_
 by_cases h:j≤xs.length
 · rw[if_pos (by omega),rx_nx xs d r s hn j h,cutF,nxK,zDn _ hj,if_pos h,dd,if_pos h]
 · rw[if_neg (by omega),cutF,dd,if_neg h];omega
def rowF(xs:List Int)(d:Nat)(t:List Int)(j:Nat):Nat:=min (lv t (xs.take j)) (d+1)
def rowK(xs:List Int)(d:Nat)(t:List Int)(k:Nat):List Nat:=mk fun j=>if j<k then rowF xs d t j else 0
def rowL(xs:List Int)(d:Nat)(t:List Int):List Nat:=rowK xs d t (xs.length+1)
theorem zBw(xs:List Int)(d:Nat)(t:List Int):(rowL xs d t).length=25:=zCr _
theorem zTu{xs:List Int}(d:Nat):zFd xs.length d=rowL xs d []:=by
 unfold zFd cutL rowL rowK;refine zBf fun j hj=>?_
 rw[cutF,zDn _ hj];by_cases h:j≤xs.length
 · rw[if_pos (by omega),dd,if_pos h,rowF,zCm,List.length_take,Nat.min_eq_left h]
 · rw[if_neg (by omega),dd,if_neg h];omega
theorem zFf{xs:List Int}(d:Nat)(t:List Int)(hn:xs.length≤24){j:Nat}(h:j≤xs.length):(rowL xs d t).getD j 0=rowF xs d t j:=by
 rw[rowL,rowK,zDn _ (by omega),if_pos (by omega)]
theorem rx_row{xs:List Int}(d:Nat)(t:List Int)(r:Int)(hn:xs.length≤24):∀j,j≤xs.length→rx xs d r (rowL xs d t) j=rowF xs d (t++[r]) j
 |0,_=>by
  simp only[rx,zFf d t hn (Nat.zero_le _),rowF,List.take_zero,zB8,List.length_append,List.length_singleton];omega
 |j+1,h=>by
  have ih:=rx_row d t r hn j (by omega);obtain⟨x,hx⟩:∃x,xs[j]?=some x:=⟨_,List.getElem?_eq_getElem (by omega)⟩;have ht:xs.take (j+1)=xs.take j++[x]:=by rw[List.take_add_one,hx];rfl
  have hg:xs.getD j 0=x:=by rw[List.getD_eq_getElem?_getD,hx];rfl
  simp only[rx];rw[ih,zFf d t hn (show j≤xs.length by omega),zFf d t hn h,hg];simp only[rowF];rw[ht,zVb];by_cases e:x=r
  · rw[if_pos e,if_pos e.symm];omega
  · rw[if_neg e,if_neg (fun h=>e h.symm)];omega
theorem zP1{xs:List Int}(d:Nat)(t:List Int)(r:Int)(hn:xs.length≤24):stepL xs d (rowL xs d t) r=rowL xs d (t++[r]):=by
 rw[←zP2 d r _ hn];unfold rxK rowL rowK;refine zBf fun j hj=>?_
 by_cases h:j<xs.length+1
 · rw[if_pos h,if_pos h];exact rx_row d t r hn j (by omega)
 · rw[if_neg h,if_neg h]
def zNg(n d:Nat)(s:List Nat):Nat:=if s.getD n 0≤d then s.getD n 0 else 0
def zI9(n d:Nat)(s:List Nat):Bool:=decide (s.getD n 0≤d)
def zCx(n d:Nat)(s:List Nat):Bool:=!decide (cutL n d s=zE6 n d)
theorem zIo{n d:Nat}{s:List Nat}(hn:n≤24):zCx n d s=false↔∀j,j≤n→d<s.getD j 0:=by
 unfold zCx;simp only[Bool.not_eq_false',decide_eq_true_eq];constructor
 · intro h j hj
   have:=mk_inj h (show j<25 by omega);rw[cutF,dd,if_pos hj]at this;omega
 · intro h
   (refine zBf fun j _=>?_);rw[cutF];by_cases hj:j≤n
   · have:=h j hj
     rw[dd,if_pos hj];omega
   · rw[dd,if_neg hj];omega
theorem zOc{xs:List Int}{d:Nat}{s:List Nat}(r:Int)(h:∀j,j≤xs.length→d<s.getD j 0):∀j,j≤xs.length→rx xs d r s j=d+1
 |0,_=>by have:=h 0 (Nat.zero_le _);simp only[rx];omega
 |j+1,hj=>by
  have ih:=zOc r h j (by omega);have h1:=h j (by omega);have h2:=h (j+1) hj;simp only[rx];rw[ih];omega
theorem zMf{xs:List Int}(d:Nat)(r:Int)(s:List Nat)(hn:xs.length≤24){j:Nat}(h:j≤xs.length):(stepL xs d s r).getD j 0=rx xs d r s j:=by
 rw[←zP2 d r s hn,rxK_get _ _ _ _ (by omega) (by omega)]
theorem zWs{xs:List Int}{d:Nat}{s:List Nat}(r:Int)(hn:xs.length≤24)(h:zCx xs.length d s=false):zCx xs.length d (stepL xs d s r)=false∧zI9 xs.length d (stepL xs d s r)=false:=by
 have h1:=(zIo hn).1 h;refine⟨(zIo hn).2 fun j hj=>?_,?_⟩
 · rw[zMf d r s hn hj,zOc r h1 j hj];omega
 · rw[zI9,zMf d r s hn (Nat.le_refl _),zOc r h1 _ (Nat.le_refl _)];simp
theorem dist_row{xs:List Int}(d:Nat)(t:List Int)(hn:xs.length≤24):zI9 xs.length d (rowL xs d t)=decide (lv t xs≤d)∧(lv t xs≤d→zNg xs.length d (rowL xs d t)=lv t xs):=by
 have e:(rowL xs d t).getD xs.length 0=min (lv t xs) (d+1):=by rw[zFf d t hn (Nat.le_refl _),rowF,List.take_length]
 refine⟨?_,fun h=>?_⟩
 · rw[zI9,e];apply decide_eq_decide.2;omega
 · rw[zNg,e,if_pos (by omega)];omega
end Lv
end
