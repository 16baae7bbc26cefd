import Derived.Test.YtobjpljdgieklaaGreatDoorJ17
import Derived.Test.YtobjpljdgieklaaGreatDoorJ15
import Derived.Test.YtobjpljdgieklaaGreatDoorJ12
import Derived.Test.YtobjpljdgieklaaGreatDoorJ27
import Derived.Test.YtobjpljdgieklaaGreatDoorJ20
import Derived.Test.YtobjpljdgieklaaGreatDoorJ35
set_option maxRecDepth 100000
namespace Go.Proofs.YtobjpljdgieklaaGreatDoor
section
open Go.RowKit Nums Fm
structure Behind(w wm:World)(mb:Nat)(base:Int)(vs:Value)(b:List St):Prop where
 bel:Below w.heap.size w wm
 row:StRow w.heap.size wm vs b
 mac:wm.heap[mb]?=some (.cells #[.int .i64 base,vs] 39)
end
section
open Go.RowKit Nums Fm
theorem zQz:∀x:List Int,lexL x x=false
 |[]=>rfl
 |a::x=>by rw[zEd,zQz x]
theorem wt_mem:∀{S:List En} {xs:List Int} {n:Int},Rise S→(xs,n)∈S→wt xs S=some n
 |[],_,_,_,h=>by cases h
 |e::r,xs,n,hr,h=>by
  obtain⟨h1,h2⟩:=List.pairwise_cons.1 hr;rw[zGc];rcases List.mem_cons.1 h with h|h
  · rw[←h,if_pos rfl]
  · have:=h1 _ h
    (have hne:e.1≠xs:=fun e2=>by rw[e2]at this;simp only[zQz]at this;cases this);rw[if_neg hne,wt_mem h2 h]
end
section
open Go.RowKit Nums Fm
theorem zT3{l:List Pr}{k:Nat}{x:Pr}(h:l[k]?=some x):l.take (k+1)=l.take k++[x]:=by
 rw[List.take_add_one,h];rfl
set_option maxHeartbeats 2000000 in
theorem zE4(w:World)(v:Value)(l:List Pr)(s:ByteArray)(h:PRow w v l)(hl:l.length≤9223372036854775807):
 Calls Tryz.prog 21 #[v,.string s] w fun e w'=>e = .returned (.tuple #[.int .i64 ((Pm.find l s).getD 0),.bool (Pm.find l s).isSome])∧w'=w:=by
 obtain⟨ad,cap,rfl⟩:=h.form;have HR:Hid (PRow w (.slice ad l.length cap) l):=h;obtain⟨n,hn⟩:∃n,l.length=n:=⟨_,rfl⟩;have HN:Hid (l.length=n):=hn;obtain⟨F,hF⟩:∃F,Pm.find l s=F:=⟨_,rfl⟩;have HF:Hid (Pm.find l s=F):=hF;rw[hn]at HR hl;clear h;rw[hn,hF];clear hn hF;go_enter Tryz.func21,Tryz.ntmps21;go_wp2
 go_loopg [6] n (fun g s6 wr=>∃(k:Nat),s6 = .int .i64 ((k:Int)-1)∧k≤n∧k≤g∧wr=w∧Hid (Pm.find (l.take k) s=F))
 case atStart=>exact⟨n,rfl,Nat.le_refl _,Nat.le_refl _,rfl,by show _=_;rw[List.take_of_length_le (by have:=HN.out;omega)];exact HF.out⟩
 case round=>
  obtain⟨k,rfl,hk,hg,rfl,HK⟩:=hrel;cases k with
  |zero=>
   (have HE:Hid (F=none):=by show _=_;rw[←HK.out];rfl);go_wp2;go_ret2;rw[HE.out];exact⟨rfl,rfl⟩
  |succ k=>
   (have e1:((k+1:Nat):Int)-1=(k:Int):=by omega);obtain⟨x,hx⟩:∃x,l[k]?=some x:=⟨l[k]'(by have:=HN.out;omega),List.getElem?_eq_getElem _⟩;obtain⟨b,off,rfl,hb,hcell⟩:=HR.out.at (by omega);obtain⟨c0,c1⟩:=hcell k x hx;(have hstep:Pm.find (l.take (k+1)) s=if x.1=s then some x.2 else Pm.find (l.take k) s:=by rw[zT3 hx,Pm.find_snoc]);(have hk0:(0:Int)≤(k:Int):=by omega);(have hkn:(k:Int)<(n:Int):=by omega);(have ekn:(k:Int).toNat=k:=by omega);clear hx hcell;by_cases hxs:x.1=s
   · have hs:(x.1.toList==s.toList)=true:=by rw[zD0];exact decide_eq_true hxs
     (have HE:Hid (F=some x.2):=by show _=_;rw[←HK.out,hstep,if_pos hxs]);clear hxs hstep;go_wp2;go_ret2;rw[HE.out];exact⟨rfl,rfl⟩
   · have hs:(x.1.toList==s.toList)=false:=by rw[zD0];exact decide_eq_false hxs
     (have HE:Hid (Pm.find (l.take k) s=F):=by show _=_;rw[←HK.out,hstep,if_neg hxs]);clear hxs hstep;go_wp2;go_roundg k;(case measure=>omega);case rel=>exact⟨k,by first|rfl|go_num,by omega,Nat.le_refl _,rfl,HE⟩
theorem zM2{l:List Pr}{x:Pr}(h:x∈l):Pm.find l x.1≠none:=by
 induction l with
 |nil=>cases h
 |cons y r ih=>
  rw[Pm.find_cons];rcases List.mem_cons.1 h with rfl|h
  · cases Pm.find r x.1<;>simp
  · cases hf:Pm.find r x.1 with
    |none=>exact absurd hf (ih h)
    |some v=>simp
theorem zTr:∀{S:List En} {xs:List Int} {n:Int},wt xs S=some n→(xs,n)∈S
 |[],_,_,h=>by cases h
 |e::r,xs,n,h=>by
  rw[zGc]at h
  split at h
  · rename_i he
    have:e=(xs,n):=Prod.ext he (Option.some.inj h);rw[this];simp
  · exact .tail _ (zTr h)
theorem find_wt{l:List Pr}(hd:DictOk l){s:ByteArray}{xs:List Int}(hs:rs s.data.toList=some xs):Pm.find l s=wt xs (ents l):=by
 cases hf:Pm.find l s with
 |some v=>
  have hm:=Pm.find_mem hf;exact(wt_mem hd.rise (List.mem_map.2 ⟨(s,v),hm,by rw[zC2,hs];rfl⟩)).symm
 |none=>
  cases hw:wt xs (ents l)with
  |none=>rfl
  |some n=>
   exfalso;obtain⟨x,hx,he⟩:=List.mem_map.1 (zTr hw);obtain⟨ys,h1,_⟩:=hd.wd x hx;rw[zC2,h1]at he;have hy:ys=xs:=(Prod.mk.inj he).1;subst hy;have e1:=(zEp h1).2;have e2:=(zEp hs).2;have:x.1=s:=zX2 (e1.symm.trans e2);rw[←this]at hf;exact zM2 hx hf
end
section
open Go.RowKit Nums Pm
theorem zRb:∀(l a:List Pr),(l.foldl (put zAa) a).length≤a.length+l.length
 |[],a=>by simp
 |x::r,a=>by
  have h:=zRb r (put zAa a x);have h2:(put zAa a x).length≤a.length+1:=by
   have:=(PutAt6.mk (l:=a) (p:=x) (k:=0) (done:=false) (acc:=[]) (by simp) (by simp));clear this
   suffices H:∀(a:List Pr) (d:Bool),(putP zAa x d a).length≤a.length+(if d then 0 else 1)from H a false
   intro a
   induction a with
   |nil=>intro d;cases d<;>simp[putP]
   |cons y a ih=>
    intro d;rw[putP];have h1:=ih true;have h0:=ih false;cases d<;>cases zAa y.1 x.1<;>by_cases e:y.1=x.1<;>simp[e]at h1 h0 ⊢<;>omega
  rw[List.foldl_cons,List.length_cons];omega
theorem zHa(l:List Pr):(norm zAa l).length≤l.length:=by have:=zRb l [];simpa[norm]using this
theorem norm_mem{l:List Pr}{x:Pr}(h:x∈norm zAa l):x∈l:=by
 have e:=SUp.find_of_mem lessB_sto (zD9 lessB_sto l) h;rw[zCl lessB_sto]at e;exact find_mem e
theorem Sm.norm{l:List Pr}(h:Sm l):Sm (Pm.norm zAa l):=fun x hx=>h x (norm_mem hx)
set_option maxHeartbeats 1000000 in
theorem zYk(w:World)(u v:Value)(l m:List Pr)(h1:PRow w u l)(h2:PRow w v m)(hl:l.length<137438953472)(hm:m.length<137438953472):
 Calls Tryz.prog 59 #[u,v] w fun e w'=>∃v',e = .returned v'∧POwn w.heap.size w' v' (zAc zAa l m)∧Below w.heap.size w w':=by
 obtain⟨ad1,cap1,rfl⟩:=h1.form;obtain⟨ad2,cap2,rfl⟩:=h2.form;have HC:Hid (∀o,PRow (w.alloc o) (.slice ad1 l.length cap1) l∧PRow (w.alloc o) (.slice ad2 m.length cap2) m∧Below w.heap.size w (w.alloc o)):=fun o=>⟨h1.below ((Below.refl _ w).alloc (Nat.le_refl _) o),h2.below ((Below.refl _ w).alloc (Nat.le_refl _) o),(Below.refl _ w).alloc (Nat.le_refl _) o⟩
 have HL:Hid ((l++m).length<549755813888):=by show _<_;simp;omega
 clear h1 h2;go_enter Tryz.func59,Tryz.ntmps59;go_wp2_with (go_at_call 96;refine(inOrder_any _ _ _ _ (l++m) HL.out (zPt _ _ _ _ _ l m (HC.out _).1 (HC.out _).2.1 (by omega) (by omega) (by simp) (by simp) (by simp))).mono ?_;rintro e w1 ⟨v1,rfl,ho1,hb1⟩);have HB1:Hid (Below w.heap.size w w1):=(HC.out _).2.2.trans (hb1.mono (HC.out _).2.2.size);have HO1:Hid (POwn w.heap.size w1 v1 (norm zAa (l++m))):=ho1.mono (HC.out _).2.2.size;clear ho1 hb1 HC;go_wp2_with (go_at_call 95;refine(zI9 w.heap.size w1 v1 _ HO1.out (by have:=zHa (l++m);have:=HL.out;omega) HB1.out.size).mono ?_;rintro e w2 ⟨v2,rfl,ho2,hb2⟩);go_ret;exact⟨v2,rfl,ho2,HB1.out.trans hb2⟩
end
section
open Go.RowKit Nums Ed
def lvF:Nat→List Int→List Int→Nat
 |0,xs,ys=>xs.length+ys.length
 |_+1,[],ys=>ys.length
 |_+1,_::xs,[]=>xs.length+1
 |f+1,x::xs,y::ys=>min (lvF f xs ys+if x=y then 0 else 1) (min (lvF f xs (y::ys)+1) (lvF f (x::xs) ys+1))
theorem zQw:∀(f:Nat) (xs ys:List Int),xs.length+ys.length≤f→lvF f xs ys=lv xs ys
 |0,xs,ys,h=>by
  have e1:xs=[]:=List.length_eq_zero_iff.1 (by omega);subst e1;rw[zCm];simp[lvF]
 |_+1,[],ys,_=>by rw[zCm];rfl
 |_+1,_::xs,[],_=>by rw[zCu];rfl
 |f+1,x::xs,y::ys,h=>by
  simp only[List.length_cons]at h;rw[zEc,lvF,zQw f xs ys (by omega),zQw f xs (y::ys) (by simp only[List.length_cons];omega),zQw f (x::xs) ys (by simp only[List.length_cons];omega)]
end
section
open Go.RowKit Nums Ed
attribute [local go_sem ↓] zKq
end
section
open Go.RowKit Nums Ed
end
section
open Go.RowKit Nums Ed
def max2(a b:Int):Int:=if a<b then b else a
theorem run_max2(ts:Array TypeId)(ty:TypeId)(k:IntKind)(a b:Int)(w:World):(Builtin.max_ ts ty #[.int k a,.int k b]).run Tryz.prog w = .ok (.int k (max2 a b)) w:=by
 simp[Builtin.max_,Builtin.max2,max2,Sem.run_pure]
attribute [local go_sem ↓] run_max2
end
