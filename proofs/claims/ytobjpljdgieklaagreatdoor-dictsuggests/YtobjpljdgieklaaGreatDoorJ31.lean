import Derived.Test.YtobjpljdgieklaaGreatDoorFBuild2
import Derived.Test.YtobjpljdgieklaaGreatDoorJ20
import Derived.Test.YtobjpljdgieklaaGreatDoorJ26
import Derived.Test.YtobjpljdgieklaaGreatDoorJ12
import Derived.Test.YtobjpljdgieklaaGreatDoorJ24
import Derived.Test.YtobjpljdgieklaaGreatDoorLvStep
set_option maxRecDepth 100000
namespace Go.Proofs.YtobjpljdgieklaaGreatDoor
section
open Go.RowKit Nums Fm
end
section
open Go.RowKit Nums Fm
structure Behind(w wm:World)(mb:Nat)(base:Int)(vs:Value)(b:List St):Prop where
 bel:Below w.heap.size w wm
 row:StRow w.heap.size wm vs b
 mac:wm.heap[mb]?=some (.cells #[.int .i64 base,vs] 39)
end
section
open Go.RowKit Nums Fm
theorem zQu:∀x:List Int,lexL x x=false
 |[]=>rfl
 |a::x=>by rw[zEd,zQu x]
theorem wt_mem:∀{S:List En} {xs:List Int} {n:Int},Rise S→(xs,n)∈S→wt xs S=some n
 |[],_,_,_,h=>by cases h
 |e::r,xs,n,hr,h=>by
  obtain⟨h1,h2⟩:=List.pairwise_cons.1 hr;rw[zF7];rcases List.mem_cons.1 h with h|h
  · rw[←h,if_pos rfl]
  · have:=h1 _ h
    (have hne:e.1≠xs:=fun e2=>by rw[e2]at this;simp only[zQu]at this;cases this);rw[if_neg hne,wt_mem h2 h]
end
section
open Go.RowKit Nums Fm
theorem zTo{l:List Pr}{k:Nat}{x:Pr}(h:l[k]?=some x):l.take (k+1)=l.take k++[x]:=by
 rw[List.take_add_one,h];rfl
set_option maxHeartbeats 2000000 in
theorem zHv(w:World)(v:Value)(l:List Pr)(s:ByteArray)(h:PRow w v l)(hl:l.length≤9223372036854775807):
 Calls Tryz.prog 21 #[v,.string s] w fun e w'=>e = .returned (.tuple #[.int .i64 ((Pm.find l s).getD 0),.bool (Pm.find l s).isSome])∧w'=w:=by
 obtain⟨ad,cap,rfl⟩:=h.form;have HR:Hid (PRow w (.slice ad l.length cap) l):=h;obtain⟨n,hn⟩:∃n,l.length=n:=⟨_,rfl⟩;have HN:Hid (l.length=n):=hn;obtain⟨F,hF⟩:∃F,Pm.find l s=F:=⟨_,rfl⟩;have HF:Hid (Pm.find l s=F):=hF;rw[hn]at HR hl;clear h;rw[hn,hF];clear hn hF;go_enter Tryz.func21,Tryz.ntmps21;go_wp2
 go_loopg [6] n (fun g s6 wr=>∃(k:Nat),s6 = .int .i64 ((k:Int)-1)∧k≤n∧k≤g∧wr=w∧Hid (Pm.find (l.take k) s=F))
 case atStart=>exact⟨n,rfl,Nat.le_refl _,Nat.le_refl _,rfl,by show _=_;rw[List.take_of_length_le (by have:=HN.out;omega)];exact HF.out⟩
 case round=>
  obtain⟨k,rfl,hk,hg,rfl,HK⟩:=hrel;cases k with
  |zero=>
   (have HE:Hid (F=none):=by show _=_;rw[←HK.out];rfl);go_wp2;go_ret2;rw[HE.out];exact⟨rfl,rfl⟩
  |succ k=>
   (have e1:((k+1:Nat):Int)-1=(k:Int):=by omega);obtain⟨x,hx⟩:∃x,l[k]?=some x:=⟨l[k]'(by have:=HN.out;omega),List.getElem?_eq_getElem _⟩;obtain⟨b,off,rfl,hb,hcell⟩:=HR.out.at (by omega);obtain⟨c0,c1⟩:=hcell k x hx;(have hstep:Pm.find (l.take (k+1)) s=if x.1=s then some x.2 else Pm.find (l.take k) s:=by rw[zTo hx,Pm.find_snoc]);(have hk0:(0:Int)≤(k:Int):=by omega);(have hkn:(k:Int)<(n:Int):=by omega);(have ekn:(k:Int).toNat=k:=by omega);clear hx hcell;by_cases hxs:x.1=s
   · have hs:(x.1.toList==s.toList)=true:=by rw[zFc];exact decide_eq_true hxs
     (have HE:Hid (F=some x.2):=by show _=_;rw[←HK.out,hstep,if_pos hxs]);clear hxs hstep;go_wp2;go_ret2;rw[HE.out];exact⟨rfl,rfl⟩
   · have hs:(x.1.toList==s.toList)=false:=by rw[zFc];exact decide_eq_false hxs
     (have HE:Hid (Pm.find (l.take k) s=F):=by show _=_;rw[←HK.out,hstep,if_neg hxs]);clear hxs hstep;go_wp2;go_roundg k;(case measure=>omega);case rel=>exact⟨k,by first|rfl|go_num,by omega,Nat.le_refl _,rfl,HE⟩
theorem zM6{l:List Pr}{x:Pr}(h:x∈l):Pm.find l x.1≠none:=by
 induction l with
 |nil=>cases h
 |cons y r ih=>
  rw[Pm.find_cons];rcases List.mem_cons.1 h with rfl|h
  · cases Pm.find r x.1<;>simp
  · cases hf:Pm.find r x.1 with
    |none=>exact absurd hf (ih h)
    |some v=>simp
theorem zTd:∀{S:List En} {xs:List Int} {n:Int},wt xs S=some n→(xs,n)∈S
 |[],_,_,h=>by cases h
 |e::r,xs,n,h=>by
  rw[zF7]at h
  split at h
  · rename_i he
    have:e=(xs,n):=Prod.ext he (Option.some.inj h);rw[this];simp
  · exact .tail _ (zTd h)
theorem find_wt{l:List Pr}(hd:DictOk l){s:ByteArray}{xs:List Int}(hs:rs s.data.toList=some xs):Pm.find l s=wt xs (ents l):=by
 cases hf:Pm.find l s with
 |some v=>
  have hm:=Pm.find_mem hf;exact(wt_mem hd.rise (List.mem_map.2 ⟨(s,v),hm,by rw[zB0,hs];rfl⟩)).symm
 |none=>
  cases hw:wt xs (ents l)with
  |none=>rfl
  |some n=>
   exfalso;obtain⟨x,hx,he⟩:=List.mem_map.1 (zTd hw);obtain⟨ys,h1,_⟩:=hd.wd x hx;rw[zB0,h1]at he;have hy:ys=xs:=(Prod.mk.inj he).1;subst hy;have e1:=(zEn h1).2;have e2:=(zEn hs).2;have:x.1=s:=zXj (e1.symm.trans e2);rw[←this]at hf;exact zM6 hx hf
end
section
open Go.RowKit Nums Pm
set_option maxHeartbeats 4000000 in
theorem zGx(w:World)(v:Value)(l:List Pr)(h:PRow w v l)(hl:l.length≤9223372036854775807)(hsm:Sm l):
 Calls Tryz.prog 36 #[v] w fun e w'=>e = .returned (.bool (zDy l))∧Below w.heap.size w w':=by
 obtain⟨ad,cap,rfl⟩:=h.form;have HR:Hid (PRow w (.slice ad l.length cap) l):=h;obtain⟨n,hn⟩:∃n,l.length=n:=⟨_,rfl⟩;have HN:Hid (l.length=n):=hn;have HS:Hid (Sm l):=hsm;rw[hn]at HR hl;obtain⟨F,hF⟩:∃F,zDy l=F:=⟨_,rfl⟩;have HF:Hid (zDy l=F):=hF;clear h hsm;rw[hn,hF];clear hn hF;by_cases hbig:4096<n
 · have hbz:(4096:Int)<(n:Int):=by omega
   (have HE:Hid (F=false):=by show _=_;rw[←HF.out];exact zR4 (by have:=HN.out;omega));go_enter Tryz.func36,Tryz.ntmps36;go_wp2;go_ret;exact⟨by rw[HE.out];rfl,Below.refl _ _⟩
 have hbz:¬(4096:Int)<(n:Int):=by omega
 go_enter Tryz.func36,Tryz.ntmps36;go_wp2
 go_loopg [3,4] n (fun g s3 _ wr=>∃(k:Nat),s3 = .int .i64 k∧k≤n∧n-k≤g∧Hid (Below w.heap.size w wr)∧Hid (zAu (zA4 l k) (l.drop k)=F))
 case atStart=>exact⟨0,rfl,Nat.zero_le _,by omega,Below.refl _ _,by show _=_;rw[←HF.out];exact(zOf (by have:=HN.out;omega)).symm⟩
 case round=>
  obtain⟨k,rfl,hk,hg,HB,HK⟩:=hrel;by_cases hlt:k<n
  · have hltz:(k:Int)<(n:Int):=by omega
    obtain⟨x,hx⟩:∃x,l[k]?=some x:=⟨l[k]'(by have:=HN.out;omega),List.getElem?_eq_getElem _⟩;obtain⟨b,off,rfl,hb,hcell⟩:=(HR.out.below HB.out).at (by omega);obtain⟨c0,c1⟩:=hcell k x hx;have HX:Hid (l[k]?=some x):=hx;(have hw:=fun(W:World)=>zDw x.1 W (HS.out.at hx));by_cases hk0:k=0
    · have HF2:Hid (∀(W:World),Below wr.heap.size wr W→W.cell? ⟨b,off+k*2,none⟩=some (.string x.1)∧W.cell? ⟨b,off+k*2+1,none⟩=some (.int .i64 x.2)∧True∧Hid (Below w.heap.size w W)):=fun W e=>⟨(e.cell (p:=⟨b,off+k*2,none⟩) hb).trans c0,(e.cell (p:=⟨b,off+k*2+1,none⟩) hb).trans c1,trivial,HB.out.trans (e.mono HB.out.size)⟩
      have hgd:decide (0<k)=false:=decide_eq_false (by omega);(have hk0z:¬(0:Int)<(k:Int):=by omega);cases hwd:zAo x.1.data.toList
      · have HE:Hid (F=false):=by show _=_;rw[←HK.out];exact zC9 hx (zMq hwd)
        rw[hwd]at hw;clear hcell hx hwd hk0;go_wp2_with (go_at_call 42;refine(hw _).mono ?_;rintro e w2 ⟨rfl,hq⟩;obtain⟨q0,q1,q2,HBq⟩:=HF2.out _ hq;clear hq);go_ret;exact⟨by rw[HE.out];rfl,HBq.out⟩
      · rw[hwd]at hw
        by_cases hlo:x.2<1
        · have HE:Hid (F=false):=by show _=_;rw[←HK.out];exact zC9 hx (zQk hlo)
          clear hcell hx hwd hk0;go_wp2_with (go_at_call 42;refine(hw _).mono ?_;rintro e w2 ⟨rfl,hq⟩;obtain⟨q0,q1,q2,HBq⟩:=HF2.out _ hq;clear hq);go_ret;exact⟨by rw[HE.out];rfl,HBq.out⟩
        · by_cases hhi:1048576<x.2
          · have HE:Hid (F=false):=by show _=_;rw[←HK.out];exact zC9 hx (zMr hhi)
            clear hcell hx hwd hk0;go_wp2_with (go_at_call 42;refine(hw _).mono ?_;rintro e w2 ⟨rfl,hq⟩;obtain⟨q0,q1,q2,HBq⟩:=HF2.out _ hq;clear hq);go_ret;exact⟨by rw[HE.out];rfl,HBq.out⟩
          · have HK2:Hid (zAu (zA4 l (k+1)) (l.drop (k+1))=F):=by show _=_;rw[←HK.out];subst hk0;exact(zOe HX.out (zUr hwd hlo hhi)).symm
            clear hcell hx hwd hk0;go_wp2_with (go_at_call 42;refine(hw _).mono ?_;rintro e w2 ⟨rfl,hq⟩;obtain⟨q0,q1,q2,HBq⟩:=HF2.out _ hq;clear hq);go_quiet (fail);go_wp2;have HB2:Hid (Below w.heap.size w _):=belowN HBq.out nq;go_roundg (n-(k+1));(case measure=>omega);case rel=>exact⟨k+1,by go_num,by omega,Nat.le_refl _,HB2,HK2⟩
    · obtain⟨kp,hkp⟩:∃kp,kp+1=k:=⟨k-1,by omega⟩
      (have hk0z:(0:Int)<(k:Int):=by omega);have hgd:decide (0<k)=true:=decide_eq_true (by omega);(have ekp:(k:Int)-1=(kp:Int):=by omega);obtain⟨y,hy⟩:∃y,l[kp]?=some y:=⟨l[kp]'(by have:=HN.out;omega),List.getElem?_eq_getElem _⟩;obtain⟨d0,d1⟩:=hcell kp y hy;(have rkp:IntKind.i64.wrap (kp:Int)=(kp:Int):=by rw[IntKind.wrap_i64];omega);(have pkp:(0:Int)≤(kp:Int):=by omega);(have bkp:(kp:Int)<(n:Int):=by omega);(have tkp:(kp:Int).toNat=kp:=by omega);(have pk:(0:Int)≤(k:Int):=by omega);(have tk:(k:Int).toNat=k:=by omega);(have hls:=fun W=>zIp y.1 x.1 W (HS.out.at hy) (HS.out.at hx));(have HF2:Hid (∀(W:World),Below wr.heap.size wr W→W.cell? ⟨b,off+k*2,none⟩=some (.string x.1)∧W.cell? ⟨b,off+k*2+1,none⟩=some (.int .i64 x.2)∧W.cell? ⟨b,off+kp*2,none⟩=some (.string y.1)∧Hid (Below w.heap.size w W)):=fun W e=>⟨(e.cell (p:=⟨b,off+k*2,none⟩) hb).trans c0,(e.cell (p:=⟨b,off+k*2+1,none⟩) hb).trans c1,(e.cell (p:=⟨b,off+kp*2,none⟩) hb).trans d0,HB.out.trans (e.mono HB.out.size)⟩);cases hwd:zAo x.1.data.toList
      · have HE:Hid (F=false):=by show _=_;rw[←HK.out];exact zC9 hx (zMq hwd)
        rw[hwd]at hw;clear hcell hx hwd hk0 hkp hy;go_wp2_with (go_at_call 42;refine(hw _).mono ?_;rintro e w2 ⟨rfl,hq⟩;obtain⟨q0,q1,q2,HBq⟩:=HF2.out _ hq;clear hq);go_ret;exact⟨by rw[HE.out];rfl,HBq.out⟩
      · rw[hwd]at hw
        by_cases hlo:x.2<1
        · have HE:Hid (F=false):=by show _=_;rw[←HK.out];exact zC9 hx (zQk hlo)
          clear hcell hx hwd hk0 hkp hy;go_wp2_with (go_at_call 42;refine(hw _).mono ?_;rintro e w2 ⟨rfl,hq⟩;obtain⟨q0,q1,q2,HBq⟩:=HF2.out _ hq;clear hq);go_ret;exact⟨by rw[HE.out];rfl,HBq.out⟩
        · by_cases hhi:1048576<x.2
          · have HE:Hid (F=false):=by show _=_;rw[←HK.out];exact zC9 hx (zMr hhi)
            clear hcell hx hwd hk0 hkp hy;go_wp2_with (go_at_call 42;refine(hw _).mono ?_;rintro e w2 ⟨rfl,hq⟩;obtain⟨q0,q1,q2,HBq⟩:=HF2.out _ hq;clear hq);go_ret;exact⟨by rw[HE.out];rfl,HBq.out⟩
          · have HOK:Hid (zE1 x=true):=zUr hwd hlo hhi
            cases hyx:zAa y.1 x.1
            · have HE:Hid (F=false):=by show _=_;rw[←HK.out,←hkp];exact zT9 (by rw[hkp];exact HX.out) hy hyx
              rw[hyx]at hls;clear hcell hx hkp hy hyx hk0 hwd;go_wp2_with (go_at_call 42;refine(hw _).mono ?_;rintro e w2 ⟨rfl,hq⟩;obtain⟨q0,q1,q2,HBq⟩:=HF2.out _ hq;clear hq);go_quiet (first|(go_at_call 43;refine Calls.quiet_of (hls _)));go_wp2;go_ret;exact⟨by rw[HE.out];rfl,belowN HBq.out nq⟩
            · have HK2:Hid (zAu (zA4 l (k+1)) (l.drop (k+1))=F):=by show _=_;rw[←HK.out,←hkp];exact(zR3 (by rw[hkp];exact HX.out) hy HOK.out hyx).symm
              rw[hyx]at hls;clear hcell hx hkp hy hyx hk0 hwd;go_wp2_with (go_at_call 42;refine(hw _).mono ?_;rintro e w2 ⟨rfl,hq⟩;obtain⟨q0,q1,q2,HBq⟩:=HF2.out _ hq;clear hq);go_quiet (first|(go_at_call 43;refine Calls.quiet_of (hls _)));go_wp2;have HB2:Hid (Below w.heap.size w _):=belowN HBq.out nq;go_roundg (n-(k+1));(case measure=>omega);case rel=>exact⟨k+1,by go_num,by omega,Nat.le_refl _,HB2,HK2⟩
  · have hltz:¬(k:Int)<(n:Int):=by omega
    (have HE:Hid (F=true):=by show _=_;rw[←HK.out];exact zUa (by have:=HN.out;omega));go_wp2;go_ret;exact⟨by rw[HE.out];rfl,HB.out⟩
end
section
open Go.RowKit Nums Ed Lv
def bldL(P:Program)(v:Value)(w:World):Result Value:=(Instr.build 178 #[(0,v)]).run P w
theorem zNb(ρ:Operand→Value)(x:Operand)(dst:Option Tmp)(ty:TypeId)(pos:String)(af:Array Edge)(g:Option (Nat×Bool))(w:World):(execOp ρ ⟨dst,.build 178 #[(0,x)],ty,pos,af,g⟩).run Tryz.prog w=(bldL Tryz.prog (ρ x) w).andThen (fun v w' => .ok (.value v) w'):=by
 simp only[execOp,Sem.run_bind,bldL,Sem.run_pure,List.map_toArray,List.map_cons,List.map_nil]
def levV(v:Value)(bs:List Nat):Value := .agg (levC v bs)
theorem bldL_at(ad:Option Addr)(n c:Nat)(w:World):bldL Tryz.prog (.slice ad n c) w = .ok (levV (.slice ad n c) zeros) w:=by kernel_rfl
theorem zSn(ρ:Operand→Value)(x:Operand)(dst:Option Tmp)(ty:TypeId)(pos:String)(af:Array Edge)(g:Option (Nat×Bool))(w:World):(execOp ρ ⟨dst,.box 178 x,ty,pos,af,g⟩).run Tryz.prog w = .ok (.value (.pointer (some ⟨w.heap.size,0,none⟩))) (w.alloc (.cells (celV (ρ x)) 178)):=by
 simp only[execOp,Sem.run_bind,Instr.box,newVar,newRow];rfl
theorem zSg(v:Value)(bs:List Nat):celV (levV v bs)=levC v bs:=rfl
def rightB(l:List UInt8)(e:Int):Bool:=zAo l&&decide (0≤e)&&decide (e≤3)
theorem zN4{l:List UInt8}(h:zAo l=true):∃xs,rs l=some xs∧1≤xs.length∧xs.length≤24:=by
 unfold zAo at h;cases e:rs l with
 |none=>rw[e]at h;cases h
 |some xs=>rw[e]at h;simp at h;exact⟨xs,rfl,by omega,by omega⟩
def zIf(d k:Nat):List Nat:=mk fun j=>if j<k then d+1 else 0
theorem zSr(d:Nat):zIf d 0=zeros:=by rw[zKf];exact zBf fun j _=>by simp
theorem zWv(n d:Nat):zIf d (n+1)=zE6 n d:=zBf fun j _=>by
 unfold dd;by_cases h:j≤n
 · rw[if_pos h,if_pos (by omega)]
 · rw[if_neg h,if_neg (by omega)]
theorem zSs(d:Nat){k:Nat}(h:k<25):(zIf d k).set k (d+1)=zIf d (k+1):=by
 rw[zIf,zMu _ _ h];refine zBf fun j _=>?_
 by_cases h1:j=k
 · subst h1;simp
 · rw[if_neg h1]
   by_cases h2:j<k
   · rw[if_pos h2,if_pos (by omega)]
   · rw[if_neg h2,if_neg (by omega)]
theorem lev_set{w:World}{p k x:Nat}{v:Value}{bs:List Nat}{t:TypeId}{f:Nat×Nat}(h:w.heap[p]?=some (.cells (levC v bs) t f)):(w.setCell ⟨p,1+k,none⟩ (bv x)).heap[p]?=some (.cells (levC v (bs.set k x)) t f):=by
 simp only[World.setCell,Array.getElem?_modify,h];simp[levC,List.map_set,Nat.add_comm 1 k]
def zX0(w w':World)(l:List UInt8)(e:Int)(v:Value)(c:Int):Prop:=
 Below w.heap.size w w'∧((rightB l e=false∧v = .pointer none∧c=110)∨(rightB l e=true∧c=0∧∃p xs d,v = .pointer (some ⟨p,0,none⟩)∧w.heap.size≤p∧rs l=some xs∧e=(d:Nat)∧LevAt w' p xs d))
theorem zXv(s:ByteArray)(xs:List Int)(w:World)(ht:Tabs w)(hm:s.size≤9223372036854775807)(hroom:Room s.data.toList)(hx:rs s.data.toList=some xs):
 Calls Tryz.prog 71 #[.string s] w fun e w'=>∃v,e = .returned (.tuple #[v,.bool true])∧Below w.heap.size w w'∧Made w.heap.size w' v xs:=by
 refine(zF4 s w ht hm hroom).mono ?_;rintro e w' ⟨v,hb,⟨hno,_,_⟩|⟨ys,hys,rfl,hmade⟩⟩
 · rw[hno]at hx;cases hx
 · obtain rfl:ys=xs:=Option.some.inj (hys.symm.trans hx)
   exact⟨v,rfl,hb,hmade⟩
attribute [local go_sem ↓] zNb zSn
attribute [local go_sem] zSg
set_option maxHeartbeats 1000000 in
theorem New_any(s:ByteArray)(e:Int)(w:World)(ht:Tabs w)(hm:s.size≤9223372036854775807):
 Calls Tryz.prog 73 #[.string s,.int .i64 e] w fun x w'=>∃v c,x = .returned (.tuple #[v,.int .i64 c])∧zX0 w w' s.data.toList e v c:=by
 by_cases hr:rightB s.data.toList e=true
 · have HR:Hid (rightB s.data.toList e=true):=hr
   have hh:=hr;simp only[rightB,Bool.and_eq_true,decide_eq_true_eq]at hh;obtain⟨⟨hw,h0⟩,h3⟩:=hh;have HWD:Hid (zAo s.data.toList=true):=hw;obtain⟨xs,hxs,hx1,hx24⟩:=zN4 hw;have HXS:Hid (rs s.data.toList=some xs):=hxs;have HROOM:Hid (Room s.data.toList):=zDm hxs (by omega);obtain⟨d,rfl⟩:∃d:Nat,e=(d:Int):=⟨e.toNat,by omega⟩;clear hr hw hxs;go_enter Tryz.func73,Tryz.ntmps73;(go_upto_region 3 with(go_at_call 56;refine(zB9 s _ ht hm).mono ?_;rintro e w1 ⟨rfl,hw1⟩;rw[HWD.out]));(have hb1:Below w.heap.size w w1:=by obtain⟨n,rfl⟩:=hw1;exact below_drewN (Below.refl _ _) n);have ht1:Tabs w1:=ht.below hb1;clear hw1;(go_upto_region 4 with(go_at_call 71;refine(zXv s xs _ ht1 hm HROOM.out HXS.out).mono ?_;rintro e w2 ⟨v,rfl,hb2,hmade⟩));have hb12:Below w.heap.size w w2:=hb1.trans (hb2.mono hb1.size);have HX2:Hid (RunesAt w2.heap.size w2 v xs):=hmade.runesE;obtain⟨ad,cap,rfl⟩:=HX2.out.form;have hbl:=bldL_at ad xs.length cap w2;have HP3:Hid ((w2.alloc (.cells (levC (.slice ad xs.length cap) zeros) 178)).heap[w2.heap.size]?=some (.cells (levC (.slice ad xs.length cap) zeros) 178 (0,0))):=zBk _ _;have HB3:Hid (Below w.heap.size w (w2.alloc (.cells (levC (.slice ad xs.length cap) zeros) 178))):=hb12.alloc hb12.size _;have HBB:Hid (Below w2.heap.size w2 (w2.alloc (.cells (levC (.slice ad xs.length cap) zeros) 178))):=(Below.refl _ _).alloc (Nat.le_refl _) _;have HX3:Hid (RunesAt w2.heap.size (w2.alloc (.cells (levC (.slice ad xs.length cap) zeros) 178)) (.slice ad xs.length cap) xs):=HX2.out.below HBB.out;have HBS:Hid (w.heap.size≤w2.heap.size):=hb12.size;clear hmade hb1 ht1 hb2 hb12 HX2 HBB;obtain⟨N,hN⟩:∃N,N=xs.length+1:=⟨_,rfl⟩;have HN:Hid (N=xs.length+1):=hN;(have hwN:IntKind.i64.wrap ((xs.length:Int)+1)=(N:Int):=by rw[IntKind.wrap_i64];omega);(have hwd:IntKind.u8.wrap (d:Int)=(d:Int):=by rw[IntKind.wrap_u8];omega);(have hwd1:IntKind.u8.wrap ((d:Int)+1)=(d:Int)+1:=by rw[IntKind.wrap_u8];omega);clear hN;go_wp2_with fail
   go_loopw [32] (fun v wr=>∃k:Nat,v = .int .i64 k∧k≤N∧wr.heap[w2.heap.size]?=some (.cells (levC (.slice ad xs.length cap) (zIf d k)) 178 (0,0))∧RunesAt w2.heap.size wr (.slice ad xs.length cap) xs∧Below w.heap.size w wr) (fun v _=>N-(intOf v).toNat)
   case atStart=>exact⟨0,rfl,Nat.zero_le _,by rw[zSr];exact HP3.out,HX3.out,HB3.out⟩
   case round=>
    clear HP3 HX3 HB3;obtain⟨k,rfl,hk,hP,hX,hB⟩:=hrel;have HP:Hid (wr.heap[w2.heap.size]?=some (.cells (levC (.slice ad xs.length cap) (zIf d k)) 178 (0,0))):=hP;have HX:Hid (RunesAt w2.heap.size wr (.slice ad xs.length cap) xs):=hX;have HB:Hid (Below w.heap.size w wr):=hB;have hwr:w2.heap.size<wr.heap.size:=(Array.getElem?_eq_some_iff.1 hP).1;by_cases hk8:k<N
    · have hk25:k<25:=by have:=HN.out;omega
      have hcell:wr.cell? ⟨w2.heap.size,1+k,none⟩=some (bv ((zIf d k).getD k 0)):=by
       have:=zFl hP k (bv ((zIf d k).getD k 0)) (by rw[List.getElem?_map,zIf,zH1 _ hk25,zDn _ hk25];rfl);simpa using this
      (have hfz:wr.frozen? ⟨w2.heap.size,1+k,none⟩=false:=by simp[World.frozen?,hP]);obtain⟨y,hy⟩:∃y,(zIf d k).getD k 0=y:=⟨_,rfl⟩;rw[hy]at hcell;clear hP hX hB hy hbl;go_wp2_with fail
      go_roundw
      case rel=>
       refine⟨k+1,by go_num,by omega,?_,HX.out.below ((Below.refl w2.heap.size wr).setCell (p:=⟨w2.heap.size,1+k,none⟩) (Nat.le_refl _) _),HB.out.setCell HBS.out _⟩;rw[←zSs _ hk25];exact lev_set HP.out
      case measure=>simp[intOf];omega
    · obtain rfl:k=N:=by omega
      have HL:Hid (LevAt wr w2.heap.size xs d):=by
       refine⟨hx24,by omega,ad,cap,?_,hX.mono (by omega)⟩;rw[HN.out,zWv]at hP;exact hP
      clear hP hX hB HP HX;go_wp2_with fail;go_ret2;exact⟨_,_,rfl,HB.out,.inr ⟨HR.out,rfl,_,xs,d,rfl,HBS.out,HXS.out,rfl,HL.out⟩⟩
 · have HR:Hid (rightB s.data.toList e=false):=by unfold Hid;simpa using hr
   clear hr;by_cases hw:zAo s.data.toList=true
   · have HWD:Hid (zAo s.data.toList=true):=hw
     have hne:¬(0≤e∧e≤3):=by
      intro hh;have:=HR.out;simp[rightB,hw,hh]at this
     clear hw;by_cases h0:e<0
     · go_enter Tryz.func73,Tryz.ntmps73
       go_wp2_with (go_at_call 56;refine(zB9 s _ ht hm).mono ?_;rintro e w1 ⟨rfl,hw1⟩;rw[HWD.out]);go_ret2;exact⟨_,_,rfl,by obtain⟨n,rfl⟩:=hw1;exact below_drewN (Below.refl _ _) n,.inl ⟨HR.out,rfl,rfl⟩⟩
     · have h3:3<e:=by omega
       go_enter Tryz.func73,Tryz.ntmps73;go_wp2_with (go_at_call 56;refine(zB9 s _ ht hm).mono ?_;rintro e w1 ⟨rfl,hw1⟩;rw[HWD.out]);go_ret2;exact⟨_,_,rfl,by obtain⟨n,rfl⟩:=hw1;exact below_drewN (Below.refl _ _) n,.inl ⟨HR.out,rfl,rfl⟩⟩
   · have HWD:Hid (zAo s.data.toList=false):=by unfold Hid;simpa using hw
     clear hw;go_enter Tryz.func73,Tryz.ntmps73;go_wp2_with (go_at_call 56;refine(zB9 s _ ht hm).mono ?_;rintro e w1 ⟨rfl,hw1⟩;rw[HWD.out]);go_ret2;exact⟨_,_,rfl,by obtain⟨n,rfl⟩:=hw1;exact below_drewN (Below.refl _ _) n,.inl ⟨HR.out,rfl,rfl⟩⟩
attribute [local go_sem ↓] zA7 zCg zA0 zA6
attribute [local go_sem] zEo
set_option maxHeartbeats 1000000 in
theorem Dist_any(p:Nat)(xs:List Int)(d:Nat)(s:List Nat)(w:World)(h:LevAt w p xs d)(hs:s.length=25):
 Calls Tryz.prog 113 #[.pointer (some ⟨p,0,none⟩),rV s] w fun e w'=>e = .returned (.tuple #[.int .i64 (zNg xs.length d s:Int),.bool (zI9 xs.length d s)])∧Below w.heap.size w w':=by
 obtain⟨hn,hd,ad,cap,hp,hr⟩:=h;have hpl:p<w.heap.size:=(Array.getElem?_eq_some_iff.1 hp).1;obtain⟨w2,hw2⟩:∃w2,w.alloc (.cells (rC s) 137)=w2:=⟨_,rfl⟩;have A2:RAt w2 w.heap.size s:=hw2▸RAt.new w _;have B2:Below w.heap.size w w2:=hw2▸(Below.refl _ w).alloc (Nat.le_refl _) _;have HW:Hid (w.alloc (.cells (rC s) 137)=w2):=hw2;have hp2:=(B2.block p hpl).trans hp;have hc1:=zQv hp2;have hc2:=lev_dead hp2 (j:=xs.length) (by omega);rw[dd,if_pos (Nat.le_refl _)]at hc2;have hc3:=A2.cell (i:=xs.length) (by omega);obtain⟨y,hy⟩:∃y,s.getD xs.length 0=y:=⟨_,rfl⟩;rw[hy]at hc3;have HB2:Hid (Below w.heap.size w w2):=B2;have HDN:Hid (zNg xs.length d s=if y≤d then y else 0):=by unfold Hid zNg;rw[hy]
 have HDB:Hid (zI9 xs.length d s=decide (y≤d)):=by unfold Hid zI9;rw[hy]
 have hx25:(xs.length:Int)<25:=by omega
 have hcast:((d+1:Nat):Int)=(d:Int)+1:=by omega
 unfold bv at hc2 hc3;rw[hcast]at hc2;clear hw2 A2 B2 hp hr hp2 hy hcast;by_cases hyd:y≤d
 · have hcmp:¬((d:Int)+1≤(y:Int)):=by omega
   go_enter Tryz.func113,Tryz.ntmps113;(go_upto_region 1 with fail);rw[HW.out];(go_upto_region 2 with fail);go_quiet (fail);go_wp2_with fail;go_ret2;exact⟨by rw[HDN.out,HDB.out,if_pos hyd,decide_eq_true hyd];rfl,below_drewN HB2.out _⟩
 · have hcmp:(d:Int)+1≤(y:Int):=by omega
   go_enter Tryz.func113,Tryz.ntmps113;(go_upto_region 1 with fail);rw[HW.out];(go_upto_region 2 with fail);go_quiet (fail);go_wp2_with fail;go_ret2;exact⟨by rw[HDN.out,HDB.out,if_neg hyd,decide_eq_false hyd];rfl,below_drewN HB2.out _⟩
set_option maxHeartbeats 1000000 in
theorem zX3(p:Nat)(xs:List Int)(d:Nat)(s:List Nat)(w:World)(h:LevAt w p xs d)(hs:s.length=25):
 Calls Tryz.prog 116 #[.pointer (some ⟨p,0,none⟩),rV s] w fun e w'=>e = .returned (.bool (zCx xs.length d s))∧Below w.heap.size w w':=by
 have HL:Hid (LevAt w p xs d):=h;obtain⟨hn,hd,ad,cap,hp,hr⟩:=h;have hpl:p<w.heap.size:=(Array.getElem?_eq_some_iff.1 hp).1;obtain⟨w2,hw2⟩:∃w2,w.alloc (.cells (rC s) 137)=w2:=⟨_,rfl⟩;have A2:Hid (RAt w2 w.heap.size s):=hw2▸RAt.new w _;have B2:Hid (Below w.heap.size w w2):=hw2▸(Below.refl _ w).alloc (Nat.le_refl _) _;have HW:Hid (w.alloc (.cells (rC s) 137)=w2):=hw2;have L2:Hid (LevAt w2 p xs d):=HL.out.below B2.out;have hsz:w.heap.size<w2.heap.size:=A2.out.lt;have HPW:Hid (∀W,Below w.heap.size w W→zGk Tryz.prog (.pointer (some ⟨p,1,none⟩)) W = .ok (rV (zE6 xs.length d)) W):=fun W hW=>zBj (zFl ((hW.block p hpl).trans hp)) (zEg xs.length d)
 clear hw2 hp hr;go_enter Tryz.func116,Tryz.ntmps116;go_upto_region 1 with fail
 rw[HW.out];have hS0:zGk Tryz.prog (.pointer (some ⟨p,1,none⟩)) w2.drew = .ok (rV (zE6 xs.length d)) w2.drew∧zGk Tryz.prog (.pointer (some ⟨w.heap.size,0,none⟩)) w2.drew = .ok (rV s) w2.drew:=⟨HPW.out _ B2.out.drew,zBj (RAt.range (w:=w2.drew) A2.out) hs⟩;refine zAe (S:=fun W'=>zGk Tryz.prog (.pointer (some ⟨p,1,none⟩)) W' = .ok (rV (zE6 xs.length d)) W'∧zGk Tryz.prog (.pointer (some ⟨w.heap.size,0,none⟩)) W' = .ok (rV s) W') 9 rfl zAr hS0 (fun _=>?_);refine tq id 0 5 ?_;simp only[sZa,sZb,sZc];refine tk (i:=1) (v:=rV s) 6 rfl rfl (by kernel_rfl) (fun w hSw=>by(have h2:=hSw.2;exact(zA0 _ (.tmp 3) _ _ _ _ _ _).trans (congrArg (fun z=>Result.andThen z (fun v w'=>Result.ok (Next.value v) w')) h2))) ?_;simp only[sZa,sZb,sZc];refine tq2 id 3 8 4 9 ?_;simp only[sZa,sZb,sZc];refine tq id 5 10 ?_;simp only[sZa,sZb,sZc];refine tk (i:=6) (v:=rV (zE6 xs.length d)) 11 rfl rfl (by kernel_rfl) (fun w hSw=>by(have h2:=hSw.1;exact(zA0 _ (.tmp 10) _ _ _ _ _ _).trans (congrArg (fun z=>Result.andThen z (fun v w'=>Result.ok (Next.value v) w')) h2))) ?_;simp only[sZa,sZb,sZc];refine zAh (i:=2) (w0:=w2.drew) 7 119 #[.pointer (some ⟨p,0,none⟩),rV s] (by kernel_rfl) rfl rfl (by rfl) (by kernel_rfl) ?_;refine(zLq p xs d s w2.drew (L2.out.below (Below.refl _ w2).drew) hs).mono ?_;rintro e w3 ⟨rfl,hb3⟩;have B3:Below w.heap.size w w3:=B2.out.drew.trans (hb3.mono (by show w.heap.size≤w2.heap.size;omega));have hS3:zGk Tryz.prog (.pointer (some ⟨p,1,none⟩)) w3 = .ok (rV (zE6 xs.length d)) w3∧zGk Tryz.prog (.pointer (some ⟨w.heap.size,0,none⟩)) w3 = .ok (rV s) w3:=⟨HPW.out _ B3,zBj (RAt.range (RAt.below (w:=w2.drew) (w':=w3) (B:=w2.heap.size) A2.out (by omega) hb3)) hs⟩;refine⟨_,rfl,hS3,fun _=>?_⟩;simp only[sZa,sZb,sZc];refine zAp (i:=7) (v := .bool (zCx xs.length d s)) (w':=w3) 12 (by kernel_rfl) rfl rfl (by rfl) ?_ hS3 (fun _=>?_)
 · have hb1:∀x∈cutL xs.length d s,x<256:=zU2 fun j _=>by have:=zWy xs.length d s j;omega
   (have hb2:∀x∈zE6 xs.length d,x<256:=zU2 fun j _=>by have:=dd_le xs.length d j;omega);have hq:=neq_row (zDt xs.length d s) (zEg xs.length d) hb1 hb2 w3;have hg:=zV9 .neq (.tmp 7) (.tmp 11) (cutL xs.length d s) (zE6 xs.length d) w3;go_simp;rw[zCx,Bool.not_not]
 simp only[sZa,sZb,sZc];refine zAp (i:=8) (v := .bool (zCx xs.length d s)) (w':=w3) 4 (by kernel_rfl) rfl rfl (by rfl) (by kernel_rfl) hS3 (fun _=>?_);simp only[sZa,sZb,sZc];refine wpAnyH_done (by kernel_rfl) ?_ _;clear hS0 hS3;go_wp2_with fail;go_ret;exact⟨rfl,B3⟩
end
section
open Go.RowKit Nums Ed Lv
theorem keep_row(w:World)(ys:List Nat)(h:ys.length=25):∃w',zJf Tryz.prog (.pointer (some ⟨w.heap.size,0,none⟩)) (rV ys) (w.alloc (.cells (rC zeros) 137)) = .ok () w'∧RAt w' w.heap.size ys∧Below w.heap.size w w'∧w.heap.size<w'.heap.size:=by
 have N5:RAt (w.alloc (.cells (rC zeros) 137)) w.heap.size zeros:=RAt.new _ _;obtain⟨P6,O6⟩:=N5.put (ys:=ys) (by rw[h,zBg]);exact⟨_,zCj N5 zBg h,P6,O6.below ((Below.refl _ w).alloc (Nat.le_refl _) _) (Nat.le_refl _),P6.lt⟩
theorem put_row{w:World}{b:Nat}{bs:List Nat}(ys:List Nat)(hb:RAt w b bs)(hl:bs.length=25)(h:ys.length=25):∃w',zJf Tryz.prog (.pointer (some ⟨b,0,none⟩)) (rV ys) w = .ok () w'∧RAt w' b ys∧One b w w':=by
 obtain⟨P6,O6⟩:=hb.put (ys:=ys) (by rw[h,hl]);exact⟨_,zCj hb hl h,P6,O6⟩
def one3:List Nat:=([1,1,1]:List Nat)++List.replicate 22 0
theorem zNc(a:Act)(dst:Option Tmp)(ty:TypeId)(pos:String)(af:Array Edge)(g:Option (Nat×Bool))(w:World):(execOp a.eval ⟨dst,.build 137 #[(0,.const (.int .u8 1)),(1,.const (.int .u8 1)),(2,.const (.int .u8 1))],ty,pos,af,g⟩).run Tryz.prog w = .ok (.value (rV one3)) w:=by
 have h:(Instr.build 137 #[(0,.int .u8 1),(1,.int .u8 1),(2,.int .u8 1)]).run Tryz.prog w = .ok (rV one3) w:=by kernel_rfl
 simp only[execOp,Sem.run_bind,Sem.run_pure,List.map_toArray,List.map_cons,List.map_nil,Act.eval,h,Result.andThen]
attribute [local go_sem ↓] zA7 zCg zA0 zA6 zNc
attribute [local go_sem] zEo
set_option maxHeartbeats 1000000 in
theorem zTb(s:ByteArray)(e:Int)(w:World)(hm:s.size≤9223372036854775807):
 Calls Tryz.prog 86 #[.string s,.int .i64 e] w fun x w'=>x = .returned (.bool (rightB s.data.toList e))∧Below w.heap.size w w':=by
 obtain⟨b,hb⟩:∃b,zAo s.data.toList=b:=⟨_,rfl⟩;have HB:Hid (zAo s.data.toList=b):=hb;clear hb;cases b
 all_goals
  go_enter Tryz.func86,Tryz.ntmps86;go_wp2_with (go_at_call 42;refine(zDw s _ hm).mono ?_;rintro x w1 ⟨rfl,hb1⟩;rw[HB.out])
  all_goals
   go_ret;refine⟨zB7 ?_,hb1⟩;rw[rightB,HB.out];first|(simp;done)|(simp;omega)
end
