import Derived.Test.YtobjpljdgieklaaGreatDoorPkOrd
import Derived.Test.YtobjpljdgieklaaGreatDoorPkBeh
import Derived.WalkMore
import Derived.Laws.EntriesVeiled
set_option maxRecDepth 100000
namespace Go.Proofs.YtobjpljdgieklaaGreatDoor
section
open Go.RowKit Nums Fm Pk
theorem Pk.form_at{m:List RSt}{k:Nat}{s:RSt}(h:m[k]?=some s):zA5 k (m.drop k)=(zI6 s k&&zA5 (k+1) (m.drop (k+1))):=by
 obtain⟨hk,rfl⟩:=List.getElem?_eq_some_iff.1 h;rw[List.drop_eq_getElem_cons hk,zA5]
set_option maxHeartbeats 4000000 in
theorem zSk(E:Nat)(w:World)(m:List RSt)(vs:Value)(h:StsAt E w vs m)(hE:E≤w.heap.size)(hT:Tabs w):
 Calls Tryz.prog 103 #[vs] w fun e w'=>e = .returned (.bool (zA5 0 m))∧Below w.heap.size w w':=by
 obtain⟨ad,cap,rfl⟩:=h.shape;obtain⟨n,hn⟩:∃n,m.length=n:=⟨_,rfl⟩;have HN:Hid (m.length=n):=hn;have HR:Hid (StsAt E w (.slice ad m.length cap) m):=h;have hl:=h.len;rw[hn]at HR hl ⊢;have HT:Hid (Tabs w):=hT;clear h hn hT;go_enter Tryz.func103,Tryz.ntmps103;go_wp2
 go_loopg [3,4,7] n (fun gm _ _ s7 wr=>∃(k:Nat),s7 = .int .i64 k∧k≤n∧n-k≤gm∧Hid (zA5 0 m=zA5 k (m.drop k))∧Hid (Below w.heap.size w wr))
 case atStart=>exact⟨0,rfl,Nat.zero_le _,by omega,rfl,Below.refl _ _⟩
 case round=>
  obtain⟨k,rfl,hk,hgm,HO,HB⟩:=hrel;by_cases hlt:k<n
  · have hltz:(k:Int)<(n:Int):=by omega
    obtain⟨s,hs⟩:∃s,m[k]?=some s:=⟨m[k]'(by have:=HN.out;omega),List.getElem?_eq_getElem _⟩;have hRw:=HR.out.below (HB.out.mono hE);obtain⟨g,off,va,rfl,hg,c0,c1,c2,hA⟩:=hRw.at hs;obtain⟨vd,vc,hva⟩:=hA.shape;obtain⟨na,hna⟩:∃na,s.arcs.length=na:=⟨_,rfl⟩;rw[hna]at hva;subst hva;have HFA:Hid (zA5 0 m=(zI6 s k&&zA5 (k+1) (m.drop (k+1)))):=HO.out.trans (form_at hs);obtain⟨sb,hsb⟩:∃sb,sb=wr.heap.size:=⟨_,rfl⟩;obtain⟨W1,hW1⟩:∃W1,W1=wr.alloc (.cells #[.bool s.final,.int .i64 s.out,.slice vd na vc] 91):=⟨_,rfl⟩;(have hn1:W1.heap[sb]?=some (.cells #[.bool s.final,.int .i64 s.out,.slice vd na vc] 91):=by rw[hW1,hsb];exact zAb _ _);(have hb1:Below wr.heap.size wr W1:=by rw[hW1];exact(Below.refl _ wr).alloc (Nat.le_refl _) _);have HBW:Hid (Below w.heap.size w W1):=HB.out.trans (hb1.mono HB.out.size);have HAt:Hid (ArcsAt E W1 (.slice vd na vc) s.arcs):=hA.below (hb1.mono (Nat.le_trans hE HB.out.size));have HCL:Hid (∀W,Below W1.heap.size W1 W→W.cell? ⟨sb,0,none⟩=some (.bool s.final)∧W.cell? ⟨sb,1,none⟩=some (.int .i64 s.out)∧W.cell? ⟨sb,2,none⟩=some (.slice vd na vc)):=fun W hW=>by
     have h1:W.heap[sb]?=W1.heap[sb]?:=hW.block sb (Array.getElem?_eq_some_iff.1 hn1).1;exact⟨by simp[World.cell?,h1,hn1],by simp[World.cell?,h1,hn1],by simp[World.cell?,h1,hn1]⟩
    have HE1:Hid (E≤W1.heap.size):=Nat.le_trans hE HBW.out.size;have HPL:Hid (Calls Tryz.prog 141 #[.agg #[.bool s.final,.int .i64 s.out,.slice vd na vc]] W1 fun e w'=>e = .returned (.int .i64 (zFo s))∧Below W1.heap.size W1 w'):=zSa E W1 s _ HAt.out HE1.out;have HOR:Hid (∀W,Below W1.heap.size W1 W→Calls Tryz.prog 142 #[.slice vd na vc,.int .i64 k] W fun e w'=>e = .returned (.bool (ordB k none s.arcs))∧Below W1.heap.size W1 w'):=fun W hW=>by
     refine(zOm E W s.arcs _ k (HAt.out.below (hW.mono HE1.out)) (Nat.le_trans HE1.out hW.size) (HT.out.below (HBW.out.trans (hW.mono HBW.out.size)))).mono ?_;rintro e w' ⟨rfl,h2⟩;exact⟨rfl,hW.trans (h2.mono hW.size)⟩
    obtain⟨a0,a1,a2⟩:=HCL.out W1 (Below.refl _ _);clear hs hRw hA hna hn1 hb1 HO;(go_upto_region 4 with fail);rw[←hsb,←hW1];clear hsb hW1 c0 c1 c2;unfold zI6 at HFA;generalize zFo s=L at *;generalize ordB (k:Int) none s.arcs=O at *;generalize s.arcs=arcs at *;generalize s.final=fn at *;generalize s.out=ot at *;by_cases h1:fn=false∧¬ot=0
    · obtain⟨rfl,h1⟩:=h1
      (have HF:Hid (zA5 0 m=false):=by show _=_;rw[HFA.out,decide_eq_false h1];rfl);have h1b:(ot==0)=false:=beq_eq_false_iff_ne.2 h1;(have h1n:(ot != 0)=true:=by simp[bne,h1b]);go_wp2;go_ret;exact⟨by rw[HF.out];rfl,HBW.out⟩
    · have h1x:(fn||decide (ot=0))=true:=by
       cases fn with
       |true=>rfl
       |false=>simp only[Bool.false_or,decide_eq_true_eq];exact Decidable.byContradiction fun h=>h1 ⟨rfl,h⟩
      rw[h1x]at HFA;clear h1;cases fn with
      |true=>
       clear h1x;by_cases hL:L=0
       · subst hL
         cases O with
         |false=>
          (have HF:Hid (zA5 0 m=false):=by show _=_;rw[HFA.out];simp);clear HFA
          go_wp2_with (first
           |(go_at_call 141;refine HPL.out.mono ?_;rintro e w2 ⟨rfl,hb2⟩;have HB2:Hid (Below W1.heap.size W1 w2):=hb2;clear hb2;obtain⟨p0,p1,p2⟩:=HCL.out w2 HB2.out)
           |(go_at_call 142;refine(HOR.out _ HB2.out).mono ?_;rintro e w3 ⟨rfl,hb3⟩;have HB3:Hid (Below W1.heap.size W1 w3):=hb3;clear hb3))
          go_ret;exact⟨by rw[HF.out];rfl,HBW.out.trans (HB3.out.mono HBW.out.size)⟩
         |true=>
          (have HF:Hid (zA5 0 m=zA5 (k+1) (m.drop (k+1))):=by show _=_;rw[HFA.out];simp);clear HFA
          go_wp2_with (first
           |(go_at_call 141;refine HPL.out.mono ?_;rintro e w2 ⟨rfl,hb2⟩;have HB2:Hid (Below W1.heap.size W1 w2):=hb2;clear hb2;obtain⟨p0,p1,p2⟩:=HCL.out w2 HB2.out)
           |(go_at_call 142;refine(HOR.out _ HB2.out).mono ?_;rintro e w3 ⟨rfl,hb3⟩;have HB3:Hid (Below W1.heap.size W1 w3):=hb3;clear hb3))
          go_roundg (n-(k+1));(case measure=>omega);case rel=>exact⟨k+1,by go_num,by omega,Nat.le_refl _,HF,HBW.out.trans (HB3.out.mono HBW.out.size)⟩
       · have HF:Hid (zA5 0 m=false):=by show _=_;rw[HFA.out,decide_eq_false hL];simp
         have h1b:(L==0)=false:=beq_eq_false_iff_ne.2 hL;(have h1n:(L != 0)=true:=by simp[bne,h1b]);clear HFA
         go_wp2_with (first
          |(go_at_call 141;refine HPL.out.mono ?_;rintro e w2 ⟨rfl,hb2⟩;have HB2:Hid (Below W1.heap.size W1 w2):=hb2;clear hb2;obtain⟨p0,p1,p2⟩:=HCL.out w2 HB2.out)
          |(go_at_call 142;refine(HOR.out _ HB2.out).mono ?_;rintro e w3 ⟨rfl,hb3⟩;have HB3:Hid (Below W1.heap.size W1 w3):=hb3;clear hb3))
         go_ret;exact⟨by rw[HF.out];rfl,HBW.out.trans (HB2.out.mono HBW.out.size)⟩
      |false=>
       (have h0:ot=0:=by simpa using h1x);subst h0;clear h1x;by_cases hL:L=0
       · subst hL
         cases O with
         |false=>
          (have HF:Hid (zA5 0 m=false):=by show _=_;rw[HFA.out];simp);clear HFA
          go_wp2_with (first
           |(go_at_call 141;refine HPL.out.mono ?_;rintro e w2 ⟨rfl,hb2⟩;have HB2:Hid (Below W1.heap.size W1 w2):=hb2;clear hb2;obtain⟨p0,p1,p2⟩:=HCL.out w2 HB2.out)
           |(go_at_call 142;refine(HOR.out _ HB2.out).mono ?_;rintro e w3 ⟨rfl,hb3⟩;have HB3:Hid (Below W1.heap.size W1 w3):=hb3;clear hb3))
          go_ret;exact⟨by rw[HF.out];rfl,HBW.out.trans (HB3.out.mono HBW.out.size)⟩
         |true=>
          (have HF:Hid (zA5 0 m=zA5 (k+1) (m.drop (k+1))):=by show _=_;rw[HFA.out];simp);clear HFA
          go_wp2_with (first
           |(go_at_call 141;refine HPL.out.mono ?_;rintro e w2 ⟨rfl,hb2⟩;have HB2:Hid (Below W1.heap.size W1 w2):=hb2;clear hb2;obtain⟨p0,p1,p2⟩:=HCL.out w2 HB2.out)
           |(go_at_call 142;refine(HOR.out _ HB2.out).mono ?_;rintro e w3 ⟨rfl,hb3⟩;have HB3:Hid (Below W1.heap.size W1 w3):=hb3;clear hb3))
          go_roundg (n-(k+1));(case measure=>omega);case rel=>exact⟨k+1,by go_num,by omega,Nat.le_refl _,HF,HBW.out.trans (HB3.out.mono HBW.out.size)⟩
       · have HF:Hid (zA5 0 m=false):=by show _=_;rw[HFA.out,decide_eq_false hL];simp
         have h1b:(L==0)=false:=beq_eq_false_iff_ne.2 hL;(have h1n:(L != 0)=true:=by simp[bne,h1b]);clear HFA
         go_wp2_with (first
          |(go_at_call 141;refine HPL.out.mono ?_;rintro e w2 ⟨rfl,hb2⟩;have HB2:Hid (Below W1.heap.size W1 w2):=hb2;clear hb2;obtain⟨p0,p1,p2⟩:=HCL.out w2 HB2.out)
          |(go_at_call 142;refine(HOR.out _ HB2.out).mono ?_;rintro e w3 ⟨rfl,hb3⟩;have HB3:Hid (Below W1.heap.size W1 w3):=hb3;clear hb3))
         go_ret;exact⟨by rw[HF.out];rfl,HBW.out.trans (HB2.out.mono HBW.out.size)⟩
  · have hltz:¬(k:Int)<(n:Int):=by omega
    have HE:Hid (zA5 0 m=true):=by
     show _=_;rw[HO.out,List.drop_of_length_le (by have:=HN.out;omega)];rfl
    go_wp2;go_ret;exact⟨by rw[HE.out];rfl,HB.out⟩
end
section
open Go.RowKit Nums Fm Pk
namespace Pk
theorem zQm:∀(l:List RArc) (x:Int),minF x l≤x∧∀a∈l,minF x l≤a.out
 |[],x=>⟨Int.le_refl _,fun a ha=>by cases ha⟩
 |a::r,x=>by
  obtain⟨h1,h2⟩:=zQm r (min x a.out);rw[minF];refine⟨by omega,fun y hy=>?_⟩;rcases List.mem_cons.1 hy with rfl|hy
  · omega
  · exact h2 y hy
theorem zMp:∀(l:List RArc) (n:Int) (p:Option Int),ordB n p l=true→(∀a∈l,0≤a.to∧a.to<n∧zC3 a.label=true)∧(∀q,p=some q→q+l.length≤1114111∨l=[])∧(l=[]∨(0≤(l.head?.map (·.label)).getD 0∧(l.head?.map (·.label)).getD 0+l.length≤1114112))
 |[],_,_,_=>⟨fun a ha=>(by cases ha),fun q _ => .inr rfl,.inl rfl⟩
 |a::r,n,p,h=>by
  rw[ordB]at h;simp only[Bool.and_eq_true,decide_eq_true_eq,Bool.not_eq_true']at h;obtain⟨⟨⟨h1,h2⟩,h3⟩,h4⟩:=h;obtain⟨g1,g2,g3⟩:=zMp r n (some a.label) h4;have hw:0≤a.label∧a.label<1114112:=by
   unfold zC3 at h2;simp only[Bool.and_eq_true]at h2;have:=of_decide_eq_true h2.1;exact⟨this.1,this.2.1⟩
  have hlen:a.label+r.length≤1114111:=by
   rcases g2 a.label rfl with h|h
   · exact h
   · rw[h];simp only[List.length_nil];omega
  refine⟨fun x hx=>?_,fun q hq=>?_,.inr ?_⟩
  · rcases List.mem_cons.1 hx with rfl|hx
    · exact⟨h3.1,h3.2,h2⟩
    · exact g1 x hx
  · subst hq
    simp only[Option.any_some,decide_eq_false_iff_not]at h1;simp only[List.length_cons];left;omega
  · simp only[List.head?_cons,Option.map_some,Option.getD_some,List.length_cons]
    omega
theorem zEs{s:RSt}{k:Nat}(h:zI6 s k=true):(∀a∈s.arcs,0≤a.to∧a.to<(k:Int)∧0≤a.out)∧0≤s.out∧s.arcs.length≤1114112:=by
 unfold zI6 at h;simp only[Bool.and_eq_true,decide_eq_true_eq]at h;obtain⟨⟨h1,h2⟩,h3⟩:=h;obtain⟨g1,_,g3⟩:=zMp _ _ _ h3;unfold zFo at h2;obtain⟨l1,l2⟩:=zQm s.arcs (if s.final then s.out else 9223372036854775807);refine⟨fun a ha=>⟨(g1 a ha).1,(g1 a ha).2.1,by have:=l2 a ha;omega⟩,?_,?_⟩
 · cases hf:s.final with
   |true=>rw[hf,if_pos rfl]at l1 h2;omega
   |false=>rw[hf]at h1;simp only[Bool.false_or,decide_eq_true_eq]at h1;omega
 · rcases g3 with h|h
   · rw[h];decide
   · omega
theorem zHc:∀(m:List RSt) (i k:Nat) (s:RSt),zA5 i m=true→m[k]?=some s→zI6 s (i+k)=true
 |[],_,_,_,_,h=>by simp at h
 |x::r,i,0,s,h,hk=>by
  rw[zA5,Bool.and_eq_true]at h;simp only[List.getElem?_cons_zero,Option.some.injEq]at hk;rw[←hk];exact h.1
 |x::r,i,k+1,s,h,hk=>by
  rw[zA5,Bool.and_eq_true]at h;have:=zHc r (i+1) k s h.2 (by simpa using hk)
  rwa [show i+1+k=i+(k+1)by omega]at this
theorem beh_nn{known:List Pk.Reach}(hk:∀r∈known,KnOk r):∀(l:List RArc) (r:Pk.Reach),0≤r.arcs∧0≤r.words∧0≤r.weight→0≤(l.foldl (zE0 known) r).arcs∧0≤(l.foldl (zE0 known) r).words∧0≤(l.foldl (zE0 known) r).weight
 |[],r,h=>h
 |a::l,r,h=>by
  rw[List.foldl_cons];refine beh_nn hk l _ ?_;have hw:0≤(known.getD a.to.toNat ⟨0,0,0⟩).words:=by
   rw[List.getD_eq_getElem?_getD];cases hg:known[a.to.toNat]? with
   |none=>exact Int.le_refl _
   |some T=>exact(hk T (List.mem_of_getElem? hg)).w0
  unfold zE0;simp only;omega
theorem beh_ok{s:RSt}{known:List Pk.Reach}{base:Int}(hb:1≤base)(hk:∀r∈known,KnOk r)(h0:0≤s.out)(h:okR base (behR s known)=true):KnOk (behR s known):=by
 have h1:0≤(behR s known).arcs∧0≤(behR s known).words∧0≤(behR s known).weight:=by
  unfold behR;refine beh_nn hk s.arcs _ ?_
  split
  · exact⟨by simp,by simp,h0⟩
  · exact⟨by simp,by simp,by simp⟩
 have h2:=of_decide_eq_true h;exact⟨h1.1,h2.1,h1.2.1,h2.2.1,h1.2.2,by omega⟩
theorem bnd_at{base:Int}{known:List Pk.Reach}{m:List RSt}{k:Nat}{s:RSt}(h:m[k]?=some s):bndB base known (m.drop k)=(okR base (behR s known)&&bndB base (known++[behR s known]) (m.drop (k+1))):=by
 obtain⟨hk,rfl⟩:=List.getElem?_eq_some_iff.1 h;rw[List.drop_eq_getElem_cons hk,bndB]
end Pk
structure BLoop(w wr:World)(base:Int)(m:List RSt)(mb:Nat)(vs vk:Value)(known:List Pk.Reach)(k:Nat):Prop where
 bel:Below w.heap.size w wr
 row:GOwn 218 3 w.heap.size wr vk (known.map zEh)
 len:known.length=k
 ok:∀r∈known,KnOk r
 eq:bndB base [] m=bndB base known (m.drop k)
 mac:wr.heap[mb]?=some (.cells #[.int .i64 base,vs] 39)
set_option maxHeartbeats 4000000 in
theorem zPg(E:Nat)(w:World)(base:Int)(m:List RSt)(vs:Value)(h:StsAt E w vs m)(hE:E≤w.heap.size)(hb1:1≤base)(hb2:base≤1048576)(hF:zA5 0 m=true)(hm:m.length≤1048576):
 Calls Tryz.prog 104 #[.agg #[.int .i64 base,vs]] w fun e w'=>e = .returned (.bool (bndB base [] m))∧Below w.heap.size w w':=by
 obtain⟨ad,cap,rfl⟩:=h.shape;obtain⟨n,hn⟩:∃n,m.length=n:=⟨_,rfl⟩;have HN:Hid (m.length=n):=hn;have HR:Hid (StsAt E w (.slice ad m.length cap) m):=h;rw[hn]at HR hm ⊢;clear h hn;go_enter Tryz.func104,Tryz.ntmps104;have HFM:Hid (zA5 0 m=true):=hF;obtain⟨mb,hmb⟩:∃mb,mb=w.heap.size:=⟨_,rfl⟩;obtain⟨W0,hW0⟩:∃W0,W0=w.alloc (.cells #[.int .i64 base,.slice ad n cap] 39):=⟨_,rfl⟩;have HS0:Hid (BLoop w W0 base m mb (.slice ad n cap) (.slice none 0 0) [] 0):=⟨by rw[hW0];exact(Below.refl _ w).alloc (Nat.le_refl _) _,GOwn.nil _ _ _ _,rfl,fun r hr=>(by cases hr),rfl,by rw[hW0,hmb];exact zAb _ _⟩;have HMB:Hid (mb=w.heap.size):=hmb;clear hF;go_wp2;rw[←hW0,←hmb];clear hW0 hmb
 go_loopg [3,5,6,10] n (fun gm s3 _ _ s10 wr=>∃(k:Nat) (known:List Pk.Reach) (kd:Option Addr) (kc:Nat),s10 = .int .i64 k∧k≤n∧n-k≤gm∧s3 = .slice kd k kc∧Hid (BLoop w wr base m mb (.slice ad n cap) (.slice kd k kc) known k))
 case atStart=>exact⟨0,[],none,0,rfl,Nat.zero_le _,by omega,rfl,HS0⟩
 case round=>
  obtain⟨k,known,kd,kc,rfl,hk,hgm,rfl,HL⟩:=hrel;by_cases hlt:k<n
  · have hltz:(k:Int)<(n:Int):=by omega
    obtain⟨s,hs⟩:∃s,m[k]?=some s:=⟨m[k]'(by have:=HN.out;omega),List.getElem?_eq_getElem _⟩;obtain⟨g,off,va,rfl,hg,c0,c1,c2,hA⟩:=(HR.out.below (HL.out.bel.mono hE)).at hs;obtain⟨vd,vc,hva⟩:=hA.shape;obtain⟨na,hna⟩:∃na,s.arcs.length=na:=⟨_,rfl⟩;rw[hna]at hva;subst hva;have hFS:=zHc m 0 k s HFM.out hs;rw[Nat.zero_add]at hFS;obtain⟨q1,q2,q3⟩:=zEs hFS;have hEq:bndB base [] m=(okR base (behR s known)&&bndB base (known++[behR s known]) (m.drop (k+1))):=HL.out.eq.trans (bnd_at hs);have hso:=HR.out.ok s (List.mem_of_getElem? hs);obtain⟨W1,hW1⟩:∃W1,W1=wr.alloc (.cells #[.bool s.final,.int .i64 s.out,.slice vd na vc] 91):=⟨_,rfl⟩;obtain⟨sb,hsb⟩:∃sb,sb=wr.heap.size:=⟨_,rfl⟩;(have hn1:W1.heap[sb]?=some (.cells #[.bool s.final,.int .i64 s.out,.slice vd na vc] 91):=by rw[hW1,hsb];exact zAb _ _);(have a0:W1.cell? ⟨sb,0,none⟩=some (.bool s.final):=by simp[World.cell?,hn1]);(have a1:W1.cell? ⟨sb,1,none⟩=some (.int .i64 s.out):=by simp[World.cell?,hn1]);(have a2:W1.cell? ⟨sb,2,none⟩=some (.slice vd na vc):=by simp[World.cell?,hn1]);(have hb1':Below wr.heap.size wr W1:=by rw[hW1];exact(Below.refl _ wr).alloc (Nat.le_refl _) _);have HB1:Hid (Below wr.heap.size wr W1):=hb1';have hEw:E≤wr.heap.size:=Nat.le_trans hE HL.out.bel.size;have hA1:=hA.below (hb1'.mono hEw);have hK1:GRow W1.heap.size 3 W1 (.slice kd k kc) (known.map zEh):=(HL.out.row.below hb1').reads
    have HBH:Hid (Calls Tryz.prog 143 #[.agg #[.bool s.final,.int .i64 s.out,.slice vd na vc],.slice kd k kc] W1 fun e w'=>e = .returned (.agg #[.int .i64 (behR s known).arcs,.int .i64 (behR s known).words,.int .i64 (behR s known).weight])∧Below W1.heap.size W1 w'):=
     zS2 W1.heap.size W1 s _ _ known ⟨hA1.row.mono (Nat.le_trans hEw hb1'.size),hA1.ok,hA1.len⟩ hK1 (Nat.le_refl _) (fun a ha=>by have:=q1 a ha;rw[HL.out.len];exact this) HL.out.ok q3 hso.2 q2
    have HKO:Hid (okR base (behR s known)=true→KnOk (behR s known)):=beh_ok hb1 HL.out.ok q2;have HEQ:Hid (bndB base [] m=(okR base (behR s known)&&bndB base (known++[behR s known]) (m.drop (k+1)))):=hEq;clear hs hA hFS q1 q2 q3 hEq hso hb1' hA1 hK1 hna HS0;generalize behR s known=R at *;clear hn1;(go_upto_region 5 with fail);rw[←hW1,←hsb];clear hW1 hsb c0 c1 c2;(go_upto_region 6 with(go_at_call 143;refine HBH.out.mono ?_;rintro e w2 ⟨rfl,hb2'⟩;have HB2:Hid (Below W1.heap.size W1 w2):=hb2';clear hb2'));obtain⟨rb,hrb⟩:∃rb,rb=w2.heap.size:=⟨_,rfl⟩;obtain⟨w3,hw3⟩:∃w3,w3=w2.alloc (.cells #[.int .i64 R.arcs,.int .i64 R.words,.int .i64 R.weight] 218):=⟨_,rfl⟩;(have hb3:Below w2.heap.size w2 w3:=by rw[hw3];exact(Below.refl _ w2).alloc (Nat.le_refl _) _);have hr3:RcBlk rb R w3:=⟨by rw[hw3,hrb];exact zAb _ _⟩;have hb03:Below wr.heap.size wr w3:=HB1.out.trans ((HB2.out.trans (hb3.mono HB2.out.size)).mono HB1.out.size);have hmac:w3.heap[mb]?=some (.cells #[.int .i64 base,.slice (some ⟨g,off,none⟩) n cap] 39):=(hb03.block mb (Array.getElem?_eq_some_iff.1 HL.out.mac).1).trans HL.out.mac;have HBW:Hid (Below w.heap.size w w3):=HL.out.bel.trans (hb03.mono HL.out.bel.size);have HOW:Hid (GOwn 218 3 w.heap.size w3 (.slice kd k kc) (known.map zEh)):=HL.out.row.below hb03;have HMAC:Hid (w3.heap[mb]?=some (.cells #[.int .i64 base,.slice (some ⟨g,off,none⟩) n cap] 39)):=hmac;(have hm0:w3.cell? ⟨mb,0,none⟩=some (.int .i64 base):=by simp[World.cell?,hmac]);obtain⟨r0,r1,r2,_⟩:=hr3.facts;rw[←hrb,←hw3];clear a0 a1 a2 hrb hw3 hb3 hr3 hb03 hmac;by_cases hA:24<R.arcs
    · have HF:Hid (bndB base [] m=false):=by show _=_;rw[HEQ.out,okR,decide_eq_false (by omega)];rfl
      clear HEQ HKO;go_wp2;go_ret;exact⟨by rw[HF.out];rfl,HBW.out⟩
    · by_cases hW:4096<R.words
      · have HF:Hid (bndB base [] m=false):=by show _=_;rw[HEQ.out,okR,decide_eq_false (by omega)];rfl
        clear HEQ HKO;go_wp2;go_ret;exact⟨by rw[HF.out];rfl,HBW.out⟩
      · by_cases hG:1048576-base<R.weight
        · have HF:Hid (bndB base [] m=false):=by show _=_;rw[HEQ.out,okR,decide_eq_false (by omega)];rfl
          clear HEQ HKO;go_wp2;go_ret;exact⟨by rw[HF.out];rfl,HBW.out⟩
        · have hok:okR base R=true:=by rw[okR,decide_eq_true (by omega)]
          (have HF:Hid (bndB base [] m=bndB base (known++[R]) (m.drop (k+1))):=by show _=_;rw[HEQ.out,hok];rfl);have HKR:Hid (KnOk R):=HKO.out hok;(have HLN:Hid ((known.map zEh).length<1099511627776):=by show _<_;rw[List.length_map,HL.out.len];omega);have HBS:Hid (w.heap.size≤w3.heap.size):=HBW.out.size;clear HEQ HKO hok;go_wp2_with (at_builtin;refine zBy rtyRc (by rfl) _ _ [.int .i64 R.arcs,.int .i64 R.words,.int .i64 R.weight] _ rfl w.heap.size _ _ _ _ rfl HOW.out rfl rfl (zW7 R) HLN.out HBS.out ?_;intro v5 w5 ho5 hb5 hg5;obtain⟨d5,e5,hv5,_⟩:=ho5.shape;rw[List.length_append,List.length_map,HL.out.len]at hv5;simp only[List.length_singleton]at hv5;subst hv5;have HO5:Hid _:=ho5;have HB5:Hid _:=hb5;have HG5:Hid _:=hg5;clear ho5 hb5 hg5);have HNX:Hid (BLoop w w5 base m mb (.slice (some ⟨g,off,none⟩) n cap) (.slice d5 (k+1) e5) (known++[R]) (k+1)):=by
           refine⟨HBW.out.trans (HB5.out.mono (Nat.le_refl _)),?_,by rw[List.length_append,HL.out.len];rfl,fun r hr=>?_,HF.out,?_⟩
           · rw[List.map_append]
             exact HO5.out
           · rcases List.mem_append.1 hr with h|h
             · exact HL.out.ok r h
             · rw[List.mem_singleton.1 h]
               exact HKR.out
           · have hlt3:=(Array.getElem?_eq_some_iff.1 HMAC.out).1
             refine(HG5.out.block mb (by simp;omega) (fun e=>?_)).trans (((MapKept.heap_alloc _ _).2 mb hlt3).trans HMAC.out);obtain⟨_,cur,hc⟩:=GOwn.block HOW.out e.symm;rw[HMAC.out]at hc;simp only[Option.some.injEq,Obj.cells.injEq]at hc;exact absurd hc.2.1 (by decide)
          go_roundg (n-(k+1));(case measure=>omega);case rel=>exact⟨k+1,_,_,_,by go_num,by omega,Nat.le_refl _,rfl,HNX⟩
  · have hltz:¬(k:Int)<(n:Int):=by omega
    have HE:Hid (bndB base [] m=true):=by
     show _=_;rw[HL.out.eq,List.drop_of_length_le (by have:=HN.out;omega)];rfl
    go_wp2;go_ret;exact⟨by rw[HE.out];rfl,HL.out.bel⟩
end
section
open Go.RowKit Nums Fm Pk
def zL6(sb ab nb vb:Nat):Value := .func (.func 144) #[] #[.pointer (some ⟨sb,0,none⟩),.pointer (some ⟨ab,0,none⟩),.pointer (some ⟨nb,0,none⟩),.pointer (some ⟨vb,0,none⟩)]
structure NumAt(w:World)(sb ab nb vb:Nat)(vs:Value)(am:Bool)(nx:Int):Prop where
 s:w.heap[sb]?=some (.cells #[vs] 37)
 a:w.heap[ab]?=some (.cells #[.bool am] 4)
 n:w.heap[nb]?=some (.cells #[.int .i64 nx] 3)
 v:w.heap[vb]?=some (.cells #[zL6 sb ab nb vb] 220)
theorem NumAt.facts{w:World}{sb ab nb vb:Nat}{vs:Value}{am:Bool}{nx:Int}(h:NumAt w sb ab nb vb vs am nx):w.cell? ⟨sb,0,none⟩=some vs∧w.cell? ⟨ab,0,none⟩=some (.bool am)∧w.cell? ⟨nb,0,none⟩=some (.int .i64 nx)∧w.cell? ⟨vb,0,none⟩=some (zL6 sb ab nb vb)∧(∀o,w.frozen? ⟨ab,o,none⟩=false)∧(∀o,w.frozen? ⟨nb,o,none⟩=false):=
 ⟨by simp[World.cell?,h.s],by simp[World.cell?,h.a],by simp[World.cell?,h.n],by simp[World.cell?,h.v],fun o=>by simp[World.frozen?,h.a],fun o=>by simp[World.frozen?,h.n]⟩
theorem NumAt.below{w w':World}{sb ab nb vb:Nat}{vs:Value}{am:Bool}{nx:Int}(h:NumAt w sb ab nb vb vs am nx)(hb:Below w.heap.size w w'):NumAt w' sb ab nb vb vs am nx:=
 ⟨(hb.block _ (Array.getElem?_eq_some_iff.1 h.s).1).trans h.s,(hb.block _ (Array.getElem?_eq_some_iff.1 h.a).1).trans h.a,(hb.block _ (Array.getElem?_eq_some_iff.1 h.n).1).trans h.n,(hb.block _ (Array.getElem?_eq_some_iff.1 h.v).1).trans h.v⟩
structure Boxes(E sb ab nb vb:Nat):Prop where
 ea:E≤ab
 en:E≤nb
 an:ab≠nb
 sa:sb≠ab
 sn:sb≠nb
 va:vb≠ab
 vn:vb≠nb
theorem NumAt.setA{E:Nat}{w:World}{sb ab nb vb:Nat}{vs:Value}{am:Bool}{nx:Int}(h:NumAt w sb ab nb vb vs am nx)(hp:Boxes E sb ab nb vb)(A:Bool):NumAt (w.setCell ⟨ab,0,none⟩ (.bool A)) sb ab nb vb vs A nx:=
 ⟨(zAf _ _ _ _ hp.sa).trans h.s,by rw[zAx h.a];rfl,(zAf _ _ _ _ (fun e=>hp.an e.symm)).trans h.n,(zAf _ _ _ _ hp.va).trans h.v⟩
theorem NumAt.setN{E:Nat}{w:World}{sb ab nb vb:Nat}{vs:Value}{am:Bool}{nx:Int}(h:NumAt w sb ab nb vb vs am nx)(hp:Boxes E sb ab nb vb)(x:Int):NumAt (w.setCell ⟨nb,0,none⟩ (.int .i64 x)) sb ab nb vb vs am x:=
 ⟨(zAf _ _ _ _ hp.sn).trans h.s,(zAf _ _ _ _ hp.an).trans h.a,by rw[zAx h.n];rfl,(zAf _ _ _ _ hp.vn).trans h.v⟩
theorem zKj{ab nb:Nat}{w wr:World}(h:Upd (fun j=>j=ab∨j=nb) w wr)(x y:Value):Upd (fun j=>j=ab∨j=nb) w ((wr.setCell ⟨ab,0,none⟩ x).setCell ⟨nb,0,none⟩ y):=by
 obtain⟨a1,a2,a3,a4⟩:=zBn wr ab 0 x;obtain⟨b1,b2,b3,b4⟩:=zBn (wr.setCell ⟨ab,0,none⟩ x) nb 0 y;exact⟨(b1.trans a1).trans h.os,(b2.trans a2).trans h.tape,(b3.trans a3).trans h.output,by rw[b4,a4];exact h.size,fun j hj hn=>(zAf _ _ _ _ (fun e=>hn (.inr e))).trans ((zAf _ _ _ _ (fun e=>hn (.inl e))).trans (h.block j hj hn))⟩
def zIq(m:List RSt)(f n next:Nat)(am:Bool)(nx:Int):Prop:=(am=false∧∃k:Nat,nx=k∧vis8 m f n next=some k)∨(am=true∧vis8 m f n next=none)
namespace Pk
theorem vArcs_at{V:Nat→Nat→Option Nat}{l:List RArc}{k next:Nat}{a:RArc}(h:l[k]?=some a):zDj V (l.drop k) next=if (next:Int)≤a.to then (V a.to.toNat next).bind (zDj V (l.drop (k+1)))else zDj V (l.drop (k+1)) next:=by
 obtain⟨hk,rfl⟩:=List.getElem?_eq_some_iff.1 h;rw[List.drop_eq_getElem_cons hk,zDj]
end Pk
structure VLoop(E:Nat)(w wr:World)(sb ab nb vb:Nat)(vs:Value)(m:List RSt)(V:Nat→Nat→Option Nat)(arcs:List RArc)(next k:Nat)(am:Bool)(nx:Int):Prop where
 num:NumAt wr sb ab nb vb vs am nx
 upd:Upd (fun j=>j=ab∨j=nb) w wr
 go:am=false→∃q:Nat,nx=q∧zDj V arcs next=zDj V (arcs.drop k) q
 no:am=true→zDj V arcs next=none
set_option maxHeartbeats 4000000 in
theorem zL5(E:Nat)(m:List RSt)(ad:Option Addr)(cap sb ab nb vb:Nat)(hF:zA5 0 m=true)(hm:m.length≤1048576)(hap:Boxes E sb ab nb vb):
 ∀(f n next:Nat) (w:World),n<f→n<m.length→next≤1048576→StsAt E w (.slice ad m.length cap) m→E≤w.heap.size→NumAt w sb ab nb vb (.slice ad m.length cap) false next →
 Calls Tryz.prog 144 #[.int .i64 n,.pointer (some ⟨sb,0,none⟩),.pointer (some ⟨ab,0,none⟩),.pointer (some ⟨nb,0,none⟩),.pointer (some ⟨vb,0,none⟩)] w fun e w'=>e = .returned (.tuple #[])∧∃am nx,NumAt w' sb ab nb vb (.slice ad m.length cap) am nx∧zIq m f n next am nx∧Upd (fun j=>j=ab∨j=nb) w w'
 |0,n,_,_,hn,_,_,_,_,_=>absurd hn (by omega)
 |f+1,n,next,w,hn,hnm,hnx,hS,hE,hN=>by
  obtain⟨s,hs⟩:∃s,m[n]?=some s:=⟨m[n],List.getElem?_eq_getElem hnm⟩;have hFS:=zHc m 0 n s hF hs;rw[Nat.zero_add]at hFS;obtain⟨q1,q2,q3⟩:=zEs hFS;obtain⟨ml,hml⟩:∃ml,m.length=ml:=⟨_,rfl⟩;have HML:Hid (m.length=ml):=hml;rw[hml]at hnm hm hS hN ⊢;obtain⟨g,off,va,rfl,hg,c0,c1,c2,hA⟩:=hS.at hs;obtain⟨vd,vc,hva⟩:=hA.shape;obtain⟨na,hna⟩:∃na,s.arcs.length=na:=⟨_,rfl⟩;have HNA:Hid (s.arcs.length=na):=hna;rw[hna]at hva q3;subst hva;have hnz:(n:Int)<(ml:Int):=by omega
  have HIH:Hid (∀(n next:Nat) (w:World),n<f→n<m.length→next≤1048576→StsAt E w (.slice (some ⟨g,off,none⟩) m.length cap) m→E≤w.heap.size→NumAt w sb ab nb vb (.slice (some ⟨g,off,none⟩) m.length cap) false next →
   Calls Tryz.prog 144 #[.int .i64 n,.pointer (some ⟨sb,0,none⟩),.pointer (some ⟨ab,0,none⟩),.pointer (some ⟨nb,0,none⟩),.pointer (some ⟨vb,0,none⟩)] w fun e w'=>e = .returned (.tuple #[])∧∃am nx,NumAt w' sb ab nb vb (.slice (some ⟨g,off,none⟩) m.length cap) am nx∧zIq m f n next am nx∧Upd (fun j=>j=ab∨j=nb) w w'):=zL5 E m _ cap sb ab nb vb hF (by omega) hap f
  obtain⟨f0,f1,f2,f3,f4,f5⟩:=hN.facts;have HL0:Hid (VLoop E w w sb ab nb vb (.slice (some ⟨g,off,none⟩) ml cap) m (vis8 m f) s.arcs next 0 false next):=⟨hN,Upd.refl _ _,fun _=>⟨next,rfl,rfl⟩,fun h=>by cases h⟩;have HV8:Hid (vis8 m (f+1) n next=(zDj (vis8 m f) s.arcs next).bind fun k=>if n=k then some (k+1)else none):=by
   show _=_;rw[vis8,List.getD_eq_getElem?_getD,hs];rfl
  have HS:Hid (StsAt E w (.slice (some ⟨g,off,none⟩) ml cap) m):=hS;have HA:Hid (ArcsAt E w (.slice vd na vc) s.arcs):=hA;clear hs hFS hS hN hA hF;go_enter Tryz.func144,Tryz.ntmps144;go_wp2
  go_step3
  go_wp2
  go_step3
  go_wp2
  go_loopg [7,14] na (fun gm _ s14 wr=>∃(k:Nat) (am:Bool) (nx:Int),s14 = .int .i64 k∧k≤na∧na-k≤gm∧Hid (VLoop E w wr sb ab nb vb (.slice (some ⟨g,off,none⟩) ml cap) m (vis8 m f) s.arcs next k am nx))
  case atStart=>exact⟨0,false,next,rfl,Nat.zero_le _,by omega,HL0⟩
  case round=>
   obtain⟨k,am,nx,rfl,hk,hgm,HL⟩:=hrel;clear f0 f1 f2 f3 f4 f5;obtain⟨f0,f1,f2,f3,f4,f5⟩:=HL.out.num.facts;have hbE:Below E w wr:=HL.out.upd.below hE (fun j hj=>hj.elim (fun e=>e▸hap.ea) (fun e=>e▸hap.en));have HBE:Hid (Below E w wr):=hbE;have hEr:E≤wr.heap.size:=Nat.le_trans hE HL.out.upd.size;by_cases hlt:k<na
   · have hltz:(k:Int)<(na:Int):=by omega
     obtain⟨x,hx⟩:∃x,s.arcs[k]?=some x:=⟨s.arcs[k]'(by have:=HNA.out;omega),List.getElem?_eq_getElem _⟩;obtain⟨ag,aoff,rfl,hag,d0,d1,d2⟩:=(HA.out.below hbE).at hx;obtain⟨p0,p1,_⟩:=q1 x (List.mem_of_getElem? hx);obtain⟨t,ht⟩:∃t:Nat,x.to=(t:Int):=⟨x.to.toNat,by omega⟩;rw[ht]at d2 p0 p1;obtain⟨xb,hxb⟩:∃xb,xb=wr.heap.size:=⟨_,rfl⟩;obtain⟨W1,hW1⟩:∃W1,W1=wr.alloc (.cells #[.int .i32 x.label,.int .i64 x.out,.int .i64 (t:Int)] 126):=⟨_,rfl⟩;(have hb1:Below wr.heap.size wr W1:=by rw[hW1];exact(Below.refl _ wr).alloc (Nat.le_refl _) _);(have hn1:W1.heap[xb]?=some (.cells #[.int .i32 x.label,.int .i64 x.out,.int .i64 (t:Int)] 126):=by rw[hW1,hxb];exact zAb _ _);have HN1:=HL.out.num.below hb1;have HU1:Hid (Upd (fun j=>j=ab∨j=nb) w W1):=HL.out.upd.trans (Upd.of_below hb1:Upd (fun _=>False) wr W1) (fun _ _ h=>h.elim);have HNN:Hid (NumAt W1 sb ab nb vb (.slice (some ⟨g,off,none⟩) ml cap) am nx):=HN1;(have e2:W1.cell? ⟨xb,2,none⟩=some (.int .i64 (t:Int)):=by simp[World.cell?,hn1]);obtain⟨g0,g1,g2,g3,g4,g5⟩:=HN1.facts;unfold zL6 at g3;have HE1:Hid (E≤W1.heap.size):=Nat.le_trans hEr hb1.size;have HBE1:Hid (Below E w W1):=hbE.trans (hb1.mono hEr);cases am with
     |true=>
      (have HVN:Hid (vis8 m (f+1) n next=none):=by show _=_;rw[HV8.out,HL.out.no rfl];rfl);(have k2:=fun A=>((HNN.out.setA hap A).facts).2.2.1);(have k5:=fun A=>((HNN.out.setA hap A).facts).2.2.2.2.2);clear hx hn1 hb1 HN1;(go_upto_region 3 with fail);rw[←hxb,←hW1];clear hxb hW1 d0 d1 d2 f0 f1 f2 f3 f4 f5;(have HFIN:Hid (∀x,NumAt ((W1.setCell ⟨ab,0,none⟩ (.bool true)).setCell ⟨nb,0,none⟩ (.int .i64 x)) sb ab nb vb (.slice (some ⟨g,off,none⟩) ml cap) true x):=fun x=>(HNN.out.setA hap true).setN hap x);go_wp2;try simp only[Exit.noGoto]
      go_end0
      exact⟨rfl,true,_,HFIN.out _,.inr ⟨rfl,HVN.out⟩,zKj HU1.out _ _⟩
     |false=>
      obtain⟨q,hq,hgo⟩:=HL.out.go rfl;subst hq;have HGO:Hid (zDj (vis8 m f) s.arcs next=if (q:Int)≤x.to then (vis8 m f x.to.toNat q).bind (zDj (vis8 m f) (s.arcs.drop (k+1)))else zDj (vis8 m f) (s.arcs.drop (k+1)) q):=hgo.trans (vArcs_at hx);rw[ht,Int.toNat_natCast]at HGO;clear hx hn1 hb1 HN1 hgo;(go_upto_region 3 with fail);rw[←hxb,←hW1];clear hxb hW1 d0 d1 d2 f0 f1 f2 f3 f4 f5;by_cases hqt:q≤t
      · have hqz:(q:Int)≤(t:Int):=by omega
        rw[if_pos hqz]at HGO;have HCL:Hid (Calls Tryz.prog 144 #[.int .i64 t,.pointer (some ⟨sb,0,none⟩),.pointer (some ⟨ab,0,none⟩),.pointer (some ⟨nb,0,none⟩),.pointer (some ⟨vb,0,none⟩)] W1 fun e w'=>e = .returned (.tuple #[])∧∃am nx,NumAt w' sb ab nb vb (.slice (some ⟨g,off,none⟩) ml cap) am nx∧zIq m f t q am nx∧Upd (fun j=>j=ab∨j=nb) W1 w'):=by
         have:=HIH.out t q W1 (by omega) (by have:=HML.out;omega) (by omega) (by rw[HML.out];exact HS.out.below HBE1.out) HE1.out (by rw[HML.out];exact HNN.out);rw[HML.out]at this;exact this
        go_wp2_with (go_at_call 144;refine HCL.out.mono ?_;rintro e w2 ⟨rfl,am2,nx2,hn2,hv2,hu2⟩;have HN2:Hid _:=hn2;have HV2:Hid _:=hv2;have HU2:Hid _:=hu2;clear hn2 hv2 hu2);have HNX:Hid (VLoop E w w2 sb ab nb vb (.slice (some ⟨g,off,none⟩) ml cap) m (vis8 m f) s.arcs next (k+1) am2 nx2):=by
         refine⟨HN2.out,HU1.out.trans HU2.out (fun _ _ h=>h),fun ha=>?_,fun ha=>?_⟩
         · rcases HV2.out with⟨_,j,hj,hv⟩|⟨h1,_⟩
           · exact⟨j,hj,by rw[HGO,hv];rfl⟩
           · rw[h1]at ha;cases ha
         · rcases HV2.out with⟨h1,_⟩|⟨_,hv⟩
           · rw[h1]at ha;cases ha
           · rw[HGO,hv];rfl
        go_roundg (na-(k+1));(case measure=>omega);case rel=>exact⟨k+1,_,_,by go_num,by omega,Nat.le_refl _,HNX⟩
      · have hqz:¬(q:Int)≤(t:Int):=by omega
        rw[if_neg hqz]at HGO;have HNX:Hid (VLoop E w W1 sb ab nb vb (.slice (some ⟨g,off,none⟩) ml cap) m (vis8 m f) s.arcs next (k+1) false q):=⟨HNN.out,HU1.out,fun _=>⟨q,rfl,HGO⟩,fun h=>by cases h⟩;go_wp2;go_roundg (na-(k+1));(case measure=>omega);case rel=>exact⟨k+1,_,_,by go_num,by omega,Nat.le_refl _,HNX⟩
   · have hltz:¬(k:Int)<(na:Int):=by omega
     have HU1:Hid (Upd (fun j=>j=ab∨j=nb) w wr):=HL.out.upd;(have k2:=fun A=>((HL.out.num.setA hap A).facts).2.2.1);(have k5:=fun A=>((HL.out.num.setA hap A).facts).2.2.2.2.2);(have HFIN:Hid (∀A x,NumAt ((wr.setCell ⟨ab,0,none⟩ (.bool A)).setCell ⟨nb,0,none⟩ (.int .i64 x)) sb ab nb vb (.slice (some ⟨g,off,none⟩) ml cap) A x):=fun A x=>(HL.out.num.setA hap A).setN hap x);cases am with
     |true=>
      (have HVN:Hid (vis8 m (f+1) n next=none):=by show _=_;rw[HV8.out,HL.out.no rfl];rfl);go_wp2;try simp only[Exit.noGoto]
      go_end0
      exact⟨rfl,true,_,HFIN.out _ _,.inr ⟨rfl,HVN.out⟩,zKj HU1.out _ _⟩
     |false=>
      obtain⟨q,hq,hgo⟩:=HL.out.go rfl;subst hq;rw[List.drop_of_length_le (by have:=HNA.out;omega),zDj]at hgo;by_cases hnq:n=q
      · subst hnq
        (have HVN:Hid (vis8 m (f+1) n next=some (n+1)):=by show _=_;rw[HV8.out,hgo];simp);clear hgo;go_wp2;try simp only[Exit.noGoto]
        go_end0
        exact⟨rfl,false,_,HFIN.out _ _,.inl ⟨rfl,n+1,by go_num,HVN.out⟩,zKj HU1.out _ _⟩
      · have HVN:Hid (vis8 m (f+1) n next=none):=by show _=_;rw[HV8.out,hgo];simp[hnq]
        have h1b:((n:Int)==(q:Int))=false:=beq_eq_false_iff_ne.2 (by omega);(have h1n:((n:Int) != (q:Int))=true:=by simp[bne,h1b]);clear hgo;go_wp2;try simp only[Exit.noGoto]
        go_end0
        exact⟨rfl,true,_,HFIN.out _ _,.inr ⟨rfl,HVN.out⟩,zKj HU1.out _ _⟩
set_option maxHeartbeats 4000000 in
theorem zMs(E:Nat)(w:World)(m:List RSt)(vs:Value)(h:StsAt E w vs m)(hE:E≤w.heap.size)(hF:zA5 0 m=true)(hm:m.length≤1048576)(hm0:m≠[]):
 Calls Tryz.prog 105 #[vs] w fun e w'=>e = .returned (.bool (numB m))∧Below w.heap.size w w':=by
 obtain⟨ad,cap,rfl⟩:=h.shape;have hpos:=List.length_pos_iff.2 hm0;obtain⟨n,hn⟩:∃n,m.length=n+1:=⟨m.length-1,by omega⟩;have HN:Hid (m.length=n+1):=hn;have HR:Hid (StsAt E w (.slice ad m.length cap) m):=h;obtain⟨sb,hsb⟩:∃sb,sb=w.heap.size:=⟨_,rfl⟩;obtain⟨nb,hnb⟩:∃nb,nb=w.heap.size+1:=⟨_,rfl⟩;obtain⟨ab,hab⟩:∃ab,ab=w.heap.size+1+1:=⟨_,rfl⟩;obtain⟨vb,hvb⟩:∃vb,vb=w.heap.size+1+1+1:=⟨_,rfl⟩;have hap:Boxes E sb ab nb vb:=⟨by omega,by omega,by omega,by omega,by omega,by omega,by omega⟩
 have HVS:Hid (∀W,Below w.heap.size w W→NumAt W sb ab nb vb (.slice ad m.length cap) false 0→Calls Tryz.prog 144 #[.int .i64 n,.pointer (some ⟨sb,0,none⟩),.pointer (some ⟨ab,0,none⟩),.pointer (some ⟨nb,0,none⟩),.pointer (some ⟨vb,0,none⟩)] W fun e w'=>e = .returned (.tuple #[])∧∃am nx,NumAt w' sb ab nb vb (.slice ad m.length cap) am nx∧zIq m (m.length+25) n 0 am nx∧Upd (fun j=>j=ab∨j=nb) W w'):=fun W hW hN=>
  zL5 E m ad cap sb ab nb vb hF hm hap (m.length+25) n 0 W (by omega) (by omega) (by omega) (h.below (hW.mono hE)) (Nat.le_trans hE hW.size) hN
 have HNB:Hid (numB m=(vis8 m (m.length+25) n 0).isSome):=by show _=_;unfold numB;rw[show m.length-1=n by omega]
 have HAP:Hid (w.heap.size≤ab∧w.heap.size≤nb):=⟨by omega,by omega⟩;rw[hn]at HVS HR hm ⊢;clear h hn;go_enter Tryz.func105,Tryz.ntmps105;obtain⟨W0,hW0⟩:∃W0,W0=(((w.alloc (.cells #[.slice ad (n+1) cap] 37)).alloc (.cells #[.int .i64 0] 3)).alloc (.cells #[.bool false] 4)).alloc (.cells #[Value.nilFunc] 220):=⟨_,rfl⟩;have hs0:W0.heap[sb]?=some (.cells #[.slice ad (n+1) cap] 37):=by
  rw[hW0,(MapKept.heap_alloc _ _).2 sb (by rw[hsb];simp;omega),(MapKept.heap_alloc _ _).2 sb (by rw[hsb];simp;omega),(MapKept.heap_alloc _ _).2 sb (by rw[hsb];simp),hsb];exact zAb _ _
 have hn0:W0.heap[nb]?=some (.cells #[.int .i64 0] 3):=by
  have e:(w.alloc (.cells #[.slice ad (n+1) cap] 37)).heap.size=nb:=by rw[hnb];simp
  rw[hW0,(MapKept.heap_alloc _ _).2 nb (by rw[hnb];simp),(MapKept.heap_alloc _ _).2 nb (by rw[hnb];simp),←e];exact zAb _ _
 have ha0:W0.heap[ab]?=some (.cells #[.bool false] 4):=by
  have e:((w.alloc (.cells #[.slice ad (n+1) cap] 37)).alloc (.cells #[.int .i64 0] 3)).heap.size=ab:=by rw[hab];simp
  rw[hW0,(MapKept.heap_alloc _ _).2 ab (by rw[hab];simp),←e];exact zAb _ _
 have hv0:W0.heap[vb]?=some (.cells #[Value.nilFunc] 220):=by
  have e:(((w.alloc (.cells #[.slice ad (n+1) cap] 37)).alloc (.cells #[.int .i64 0] 3)).alloc (.cells #[.bool false] 4)).heap.size=vb:=by rw[hvb];simp
  rw[hW0,←e];exact zAb _ _
 have hb0:Below w.heap.size w W0:=by
  rw[hW0];exact((((Below.refl _ w).alloc (Nat.le_refl _) _).alloc (by simp) _).alloc (by simp;omega) _).alloc (by simp;omega) _
 have z0:W0.cell? ⟨vb,0,none⟩=some Value.nilFunc:=by simp[World.cell?,hv0]
 have z1:∀o,W0.frozen? ⟨vb,o,none⟩=false:=fun o=>by simp[World.frozen?,hv0]
 obtain⟨W1,hW1⟩:∃W1,W1=W0.setCell ⟨vb,0,none⟩ (zL6 sb ab nb vb):=⟨_,rfl⟩;have hN1:NumAt W1 sb ab nb vb (.slice ad (n+1) cap) false 0:=by
  rw[hW1];exact⟨(zAf _ _ _ _ (by omega)).trans hs0,(zAf _ _ _ _ (by omega)).trans ha0,(zAf _ _ _ _ (by omega)).trans hn0,by rw[zAx hv0];rfl⟩
 have HB1:Hid (Below w.heap.size w W1):=by show Below _ _ _;rw[hW1];exact hb0.setCell (p:=⟨vb,0,none⟩) (by simp only;omega) _
 have HC:Hid (Calls Tryz.prog 144 #[.int .i64 n,.pointer (some ⟨sb,0,none⟩),.pointer (some ⟨ab,0,none⟩),.pointer (some ⟨nb,0,none⟩),.pointer (some ⟨vb,0,none⟩)] W1 fun e w'=>e = .returned (.tuple #[])∧∃am nx,NumAt w' sb ab nb vb (.slice ad (n+1) cap) am nx∧zIq m (n+1+25) n 0 am nx∧Upd (fun j=>j=ab∨j=nb) W1 w'):=HVS.out W1 HB1.out hN1;have hW1':W1=W0.setCell ⟨vb,0,none⟩ (.func (.func 144) #[] #[.pointer (some ⟨sb,0,none⟩),.pointer (some ⟨ab,0,none⟩),.pointer (some ⟨nb,0,none⟩),.pointer (some ⟨vb,0,none⟩)]):=hW1;obtain⟨g0,g1,g2,g3,g4,g5⟩:=hN1.facts;unfold zL6 at g3;have hwrp:IntKind.i64.wrap (((n+1:Nat):Int)-1)=(n:Int):=by rw[IntKind.wrap_i64];omega
 clear hs0 hn0 ha0 hv0 hb0 hN1 hW1 hap;go_upto_region 3 with fail
 rw[←hvb,←hab,←hnb,←hsb,←hW0];clear hW0 hsb hab hnb hvb;go_upto_region 4 with fail
 rw[←hW1'];clear hW1' z0 z1;go_upto_region 5 with(go_at_call 144;refine HC.out.mono ?_;rintro e w2 ⟨rfl,am,nx,hn2,hv2,hu2⟩)
 obtain⟨g0',g1',g2',g3',g4',g5'⟩:=hn2.facts;have hbel:Below w.heap.size w w2:=HB1.out.trans (hu2.below HB1.out.size (fun j hj=>hj.elim (fun e=>e▸HAP.out.1) (fun e=>e▸HAP.out.2)));have HAM:Hid (numB m=!am):=by
  show _=_;rw[HNB.out,HN.out];rcases hv2 with⟨rfl,k,_,h2⟩|⟨rfl,h2⟩
  · rw[h2];rfl
  · rw[h2];rfl
 clear hn2 hv2 hu2;go_wp2;go_ret;exact⟨by rw[HAM.out];rfl,hbel⟩
end
