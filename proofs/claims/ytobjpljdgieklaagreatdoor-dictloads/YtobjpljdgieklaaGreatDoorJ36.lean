import Derived.Test.YtobjpljdgieklaaGreatDoorPkOrd
import Derived.Test.YtobjpljdgieklaaGreatDoorPkBeh
set_option maxRecDepth 100000
set_option maxHeartbeats 8000000
namespace Go.Proofs.YtobjpljdgieklaaGreatDoor
section
open Go.RowKit Nums Fm Pk
theorem Pk.form_at{m:List RSt}{k:Nat}{s:RSt}(h:m[k]?=some s):zBg k (m.drop k)=(zIt s k&&zBg (k+1) (m.drop (k+1))):=by
 obtain⟨hk,rfl⟩:=List.getElem?_eq_some_iff.1 h;rw[List.drop_eq_getElem_cons hk,zBg]
theorem zSl(E:Nat)(w:World)(m:List RSt)(vs:Value)(h:StsAt E w vs m)(hE:E≤w.heap.size)(hT:Tabs w):
 Calls Tryz.prog 103 #[vs] w fun e w'=>e = .returned (.bool (zBg 0 m))∧Below w.heap.size w w':=by
 obtain⟨ad,cap,rfl⟩:=h.shape;obtain⟨n,hn⟩:∃n,m.length=n:=⟨_,rfl⟩;have HN:Hid (m.length=n):=hn;have HR:Hid (StsAt E w (.slice ad m.length cap) m):=h;have hl:=h.len;rw[hn]at HR hl ⊢;have HT:Hid (Tabs w):=hT;clear h hn hT;go_enter Tryz.func103,Tryz.ntmps103;go_wp2
 go_loopg [3,4,7] n (fun gm _ _ s7 wr=>∃(k:Nat),s7 = .int .i64 k∧k≤n∧n-k≤gm∧Hid (zBg 0 m=zBg k (m.drop k))∧Hid (Below w.heap.size w wr))
 case atStart=>exact⟨0,rfl,Nat.zero_le _,by omega,rfl,Below.refl _ _⟩
 case round=>
  obtain⟨k,rfl,hk,hgm,HO,HB⟩:=hrel;by_cases hlt:k<n
  · have hltz:(k:Int)<(n:Int):=by omega
    obtain⟨s,hs⟩:∃s,m[k]?=some s:=⟨m[k]'(by have:=HN.out;omega),List.getElem?_eq_getElem _⟩;have hRw:=HR.out.below (HB.out.mono hE);obtain⟨g,off,va,rfl,hg,c0,c1,c2,hA⟩:=hRw.at hs;obtain⟨vd,vc,hva⟩:=hA.shape;obtain⟨na,hna⟩:∃na,s.arcs.length=na:=⟨_,rfl⟩;rw[hna]at hva;subst hva;have HFA:Hid (zBg 0 m=(zIt s k&&zBg (k+1) (m.drop (k+1)))):=HO.out.trans (form_at hs);obtain⟨sb,hsb⟩:∃sb,sb=wr.heap.size:=⟨_,rfl⟩;obtain⟨W1,hW1⟩:∃W1,W1=wr.alloc (.cells #[.bool s.final,.int .i64 s.out,.slice vd na vc] 91):=⟨_,rfl⟩;(have hn1:W1.heap[sb]?=some (.cells #[.bool s.final,.int .i64 s.out,.slice vd na vc] 91):=by rw[hW1,hsb];exact zAb _ _);(have hb1:Below wr.heap.size wr W1:=by rw[hW1];exact(Below.refl _ wr).alloc (Nat.le_refl _) _);have HBW:Hid (Below w.heap.size w W1):=HB.out.trans (hb1.mono HB.out.size);have HAt:Hid (ArcsAt E W1 (.slice vd na vc) s.arcs):=hA.below (hb1.mono (Nat.le_trans hE HB.out.size));have HCL:Hid (∀W,Below W1.heap.size W1 W→W.cell? ⟨sb,0,none⟩=some (.bool s.final)∧W.cell? ⟨sb,1,none⟩=some (.int .i64 s.out)∧W.cell? ⟨sb,2,none⟩=some (.slice vd na vc)):=fun W hW=>by
     have h1:W.heap[sb]?=W1.heap[sb]?:=hW.block sb (Array.getElem?_eq_some_iff.1 hn1).1;exact⟨by simp[World.cell?,h1,hn1],by simp[World.cell?,h1,hn1],by simp[World.cell?,h1,hn1]⟩
    have HE1:Hid (E≤W1.heap.size):=Nat.le_trans hE HBW.out.size;have HPL:Hid (Calls Tryz.prog 141 #[.agg #[.bool s.final,.int .i64 s.out,.slice vd na vc]] W1 fun e w'=>e = .returned (.int .i64 (zGt s))∧Below W1.heap.size W1 w'):=zR8 E W1 s _ HAt.out HE1.out;have HOR:Hid (∀W,Below W1.heap.size W1 W→Calls Tryz.prog 142 #[.slice vd na vc,.int .i64 k] W fun e w'=>e = .returned (.bool (ordB k none s.arcs))∧Below W1.heap.size W1 w'):=fun W hW=>by
     refine(zOh E W s.arcs _ k (HAt.out.below (hW.mono HE1.out)) (Nat.le_trans HE1.out hW.size) (HT.out.below (HBW.out.trans (hW.mono HBW.out.size)))).mono ?_;rintro e w' ⟨rfl,h2⟩;exact⟨rfl,hW.trans (h2.mono hW.size)⟩
    obtain⟨a0,a1,a2⟩:=HCL.out W1 (Below.refl _ _);clear hs hRw hA hna hn1 hb1 HO;(go_upto_region 4 with fail);rw[←hsb,←hW1];clear hsb hW1 c0 c1 c2;unfold zIt at HFA;generalize zGt s=L at *;generalize ordB (k:Int) none s.arcs=O at *;generalize s.arcs=arcs at *;generalize s.final=fn at *;generalize s.out=ot at *;by_cases h1:fn=false∧¬ot=0
    · obtain⟨rfl,h1⟩:=h1
      (have HF:Hid (zBg 0 m=false):=by show _=_;rw[HFA.out,decide_eq_false h1];rfl);have h1b:(ot==0)=false:=beq_eq_false_iff_ne.2 h1;(have h1n:(ot != 0)=true:=by simp[bne,h1b]);go_wp2;go_ret;exact⟨by rw[HF.out];rfl,HBW.out⟩
    · have h1x:(fn||decide (ot=0))=true:=by
       cases fn with
       |true=>rfl
       |false=>simp only[Bool.false_or,decide_eq_true_eq];exact Decidable.byContradiction fun h=>h1 ⟨rfl,h⟩
      rw[h1x]at HFA;clear h1;cases fn
      rotate_left
      focus
       clear h1x
      rotate_left
      focus
       (have h0:ot=0:=by simpa using h1x);subst h0;clear h1x
      all_goals
       by_cases hL:L=0
       · subst hL
         cases O with
         |false=>
          (have HF:Hid (zBg 0 m=false):=by show _=_;rw[HFA.out];simp);clear HFA
          go_wp2_with (first
           |(go_at_call 141;refine HPL.out.mono ?_;rintro e w2 ⟨rfl,hb2⟩;have HB2:Hid (Below W1.heap.size W1 w2):=hb2;clear hb2;obtain⟨p0,p1,p2⟩:=HCL.out w2 HB2.out)
           |(go_at_call 142;refine(HOR.out _ HB2.out).mono ?_;rintro e w3 ⟨rfl,hb3⟩;have HB3:Hid (Below W1.heap.size W1 w3):=hb3;clear hb3))
          go_ret;exact⟨by rw[HF.out];rfl,HBW.out.trans (HB3.out.mono HBW.out.size)⟩
         |true=>
          (have HF:Hid (zBg 0 m=zBg (k+1) (m.drop (k+1))):=by show _=_;rw[HFA.out];simp);clear HFA
          go_wp2_with (first
           |(go_at_call 141;refine HPL.out.mono ?_;rintro e w2 ⟨rfl,hb2⟩;have HB2:Hid (Below W1.heap.size W1 w2):=hb2;clear hb2;obtain⟨p0,p1,p2⟩:=HCL.out w2 HB2.out)
           |(go_at_call 142;refine(HOR.out _ HB2.out).mono ?_;rintro e w3 ⟨rfl,hb3⟩;have HB3:Hid (Below W1.heap.size W1 w3):=hb3;clear hb3))
          go_roundg (n-(k+1));(case measure=>omega);case rel=>exact⟨k+1,by go_num,by omega,Nat.le_refl _,HF,HBW.out.trans (HB3.out.mono HBW.out.size)⟩
       · have HF:Hid (zBg 0 m=false):=by show _=_;rw[HFA.out,decide_eq_false hL];simp
         have h1b:(L==0)=false:=beq_eq_false_iff_ne.2 hL;(have h1n:(L != 0)=true:=by simp[bne,h1b]);clear HFA
         go_wp2_with (first
          |(go_at_call 141;refine HPL.out.mono ?_;rintro e w2 ⟨rfl,hb2⟩;have HB2:Hid (Below W1.heap.size W1 w2):=hb2;clear hb2;obtain⟨p0,p1,p2⟩:=HCL.out w2 HB2.out)
          |(go_at_call 142;refine(HOR.out _ HB2.out).mono ?_;rintro e w3 ⟨rfl,hb3⟩;have HB3:Hid (Below W1.heap.size W1 w3):=hb3;clear hb3))
         go_ret;exact⟨by rw[HF.out];rfl,HBW.out.trans (HB2.out.mono HBW.out.size)⟩
  · have hltz:¬(k:Int)<(n:Int):=by omega
    have HE:Hid (zBg 0 m=true):=by
     show _=_;rw[HO.out,List.drop_of_length_le (by have:=HN.out;omega)];rfl
    go_wp2;go_ret;exact⟨by rw[HE.out];rfl,HB.out⟩
namespace Pk
theorem zQk:∀(l:List RArc) (x:Int),minF x l≤x∧∀a∈l,minF x l≤a.out
 |[],x=>⟨Int.le_refl _,fun a ha=>by cases ha⟩
 |a::r,x=>by
  obtain⟨h1,h2⟩:=zQk r (min x a.out);rw[minF];refine⟨by omega,fun y hy=>?_⟩;rcases List.mem_cons.1 hy with rfl|hy
  · omega
  · exact h2 y hy
theorem zMh:∀(l:List RArc) (n:Int) (p:Option Int),ordB n p l=true→(∀a∈l,0≤a.to∧a.to<n∧zC7 a.label=true)∧(∀q,p=some q→q+l.length≤1114111∨l=[])∧(l=[]∨(0≤(l.head?.map (·.label)).getD 0∧(l.head?.map (·.label)).getD 0+l.length≤1114112))
 |[],_,_,_=>⟨fun a ha=>(by cases ha),fun q _ => .inr rfl,.inl rfl⟩
 |a::r,n,p,h=>by
  rw[ordB]at h;simp only[Bool.and_eq_true,decide_eq_true_eq,Bool.not_eq_true']at h;obtain⟨⟨⟨h1,h2⟩,h3⟩,h4⟩:=h;obtain⟨g1,g2,g3⟩:=zMh r n (some a.label) h4;have hw:0≤a.label∧a.label<1114112:=by
   unfold zC7 at h2;simp only[Bool.and_eq_true]at h2;have:=of_decide_eq_true h2.1;exact⟨this.1,this.2.1⟩
  have hlen:a.label+r.length≤1114111:=by
   rcases g2 a.label rfl with h|h
   · exact h
   · rw[h];simp only[List.length_nil];omega
  refine⟨fun x hx=>?_,fun q hq=>?_,.inr ?_⟩
  · rcases List.mem_cons.1 hx with rfl|hx
    · exact⟨h3.1,h3.2,h2⟩
    · exact g1 x hx
  · subst hq
    simp only[Option.any_some,decide_eq_false_iff_not]at h1;simp only[List.length_cons];left;omega
  · simp only[List.head?_cons,Option.map_some,Option.getD_some,List.length_cons]
    omega
theorem zEo{s:RSt}{k:Nat}(h:zIt s k=true):(∀a∈s.arcs,0≤a.to∧a.to<(k:Int)∧0≤a.out)∧0≤s.out∧s.arcs.length≤1114112:=by
 unfold zIt at h;simp only[Bool.and_eq_true,decide_eq_true_eq]at h;obtain⟨⟨h1,h2⟩,h3⟩:=h;obtain⟨g1,_,g3⟩:=zMh _ _ _ h3;unfold zGt at h2;obtain⟨l1,l2⟩:=zQk s.arcs (if s.final then s.out else 9223372036854775807);refine⟨fun a ha=>⟨(g1 a ha).1,(g1 a ha).2.1,by have:=l2 a ha;omega⟩,?_,?_⟩
 · cases hf:s.final with
   |true=>rw[hf,if_pos rfl]at l1 h2;omega
   |false=>rw[hf]at h1;simp only[Bool.false_or,decide_eq_true_eq]at h1;omega
 · rcases g3 with h|h
   · rw[h];decide
   · omega
theorem zHa:∀(m:List RSt) (i k:Nat) (s:RSt),zBg i m=true→m[k]?=some s→zIt s (i+k)=true
 |[],_,_,_,_,h=>by simp at h
 |x::r,i,0,s,h,hk=>by
  rw[zBg,Bool.and_eq_true]at h;simp only[List.getElem?_cons_zero,Option.some.injEq]at hk;rw[←hk];exact h.1
 |x::r,i,k+1,s,h,hk=>by
  rw[zBg,Bool.and_eq_true]at h;have:=zHa r (i+1) k s h.2 (by simpa using hk)
  rwa [show i+1+k=i+(k+1)by omega]at this
theorem beh_nn{known:List Pk.Reach}(hk:∀r∈known,KnOk r):∀(l:List RArc) (r:Pk.Reach),0≤r.arcs∧0≤r.words∧0≤r.weight→0≤(l.foldl (zE0 known) r).arcs∧0≤(l.foldl (zE0 known) r).words∧0≤(l.foldl (zE0 known) r).weight
 |[],r,h=>h
 |a::l,r,h=>by
  rw[List.foldl_cons];refine beh_nn hk l _ ?_;have hw:0≤(known.getD a.to.toNat ⟨0,0,0⟩).words:=by
   rw[List.getD_eq_getElem?_getD];cases hg:known[a.to.toNat]? with
   |none=>exact Int.le_refl _
   |some T=>exact(hk T (List.mem_of_getElem? hg)).w0
  unfold zE0;simp only;omega
theorem beh_ok{s:RSt}{known:List Pk.Reach}{base:Int}(hb:1≤base)(hk:∀r∈known,KnOk r)(h0:0≤s.out)(h:okR base (behR s known)=true):KnOk (behR s known):=by
 have h1:0≤(behR s known).arcs∧0≤(behR s known).words∧0≤(behR s known).weight:=by
  unfold behR;refine beh_nn hk s.arcs _ ?_
  split
  · exact⟨by simp,by simp,h0⟩
  · exact⟨by simp,by simp,by simp⟩
 have h2:=of_decide_eq_true h;exact⟨h1.1,h2.1,h1.2.1,h2.2.1,h1.2.2,by omega⟩
theorem bnd_at{base:Int}{known:List Pk.Reach}{m:List RSt}{k:Nat}{s:RSt}(h:m[k]?=some s):bndB base known (m.drop k)=(okR base (behR s known)&&bndB base (known++[behR s known]) (m.drop (k+1))):=by
 obtain⟨hk,rfl⟩:=List.getElem?_eq_some_iff.1 h;rw[List.drop_eq_getElem_cons hk,bndB]
end Pk
structure BLoop(w wr:World)(base:Int)(m:List RSt)(mb:Nat)(vs vk:Value)(known:List Pk.Reach)(k:Nat):Prop where
 bel:Below w.heap.size w wr
 row:GOwn 218 3 w.heap.size wr vk (known.map zEd)
 len:known.length=k
 ok:∀r∈known,KnOk r
 eq:bndB base [] m=bndB base known (m.drop k)
 mac:wr.heap[mb]?=some (.cells #[.int .i64 base,vs] 39)
theorem zPb(E:Nat)(w:World)(base:Int)(m:List RSt)(vs:Value)(h:StsAt E w vs m)(hE:E≤w.heap.size)(hb1:1≤base)(hb2:base≤1048576)(hF:zBg 0 m=true)(hm:m.length≤1048576):
 Calls Tryz.prog 104 #[.agg #[.int .i64 base,vs]] w fun e w'=>e = .returned (.bool (bndB base [] m))∧Below w.heap.size w w':=by
 obtain⟨ad,cap,rfl⟩:=h.shape;obtain⟨n,hn⟩:∃n,m.length=n:=⟨_,rfl⟩;have HN:Hid (m.length=n):=hn;have HR:Hid (StsAt E w (.slice ad m.length cap) m):=h;rw[hn]at HR hm ⊢;clear h hn;go_enter Tryz.func104,Tryz.ntmps104;have HFM:Hid (zBg 0 m=true):=hF;obtain⟨mb,hmb⟩:∃mb,mb=w.heap.size:=⟨_,rfl⟩;obtain⟨W0,hW0⟩:∃W0,W0=w.alloc (.cells #[.int .i64 base,.slice ad n cap] 39):=⟨_,rfl⟩;have HS0:Hid (BLoop w W0 base m mb (.slice ad n cap) (.slice none 0 0) [] 0):=⟨by rw[hW0];exact(Below.refl _ w).alloc (Nat.le_refl _) _,GOwn.nil _ _ _ _,rfl,fun r hr=>(by cases hr),rfl,by rw[hW0,hmb];exact zAb _ _⟩;have HMB:Hid (mb=w.heap.size):=hmb;clear hF;go_wp2;rw[←hW0,←hmb];clear hW0 hmb
 go_loopg [3,5,6,10] n (fun gm s3 _ _ s10 wr=>∃(k:Nat) (known:List Pk.Reach) (kd:Option Addr) (kc:Nat),s10 = .int .i64 k∧k≤n∧n-k≤gm∧s3 = .slice kd k kc∧Hid (BLoop w wr base m mb (.slice ad n cap) (.slice kd k kc) known k))
 case atStart=>exact⟨0,[],none,0,rfl,Nat.zero_le _,by omega,rfl,HS0⟩
 case round=>
  obtain⟨k,known,kd,kc,rfl,hk,hgm,rfl,HL⟩:=hrel;by_cases hlt:k<n
  · have hltz:(k:Int)<(n:Int):=by omega
    obtain⟨s,hs⟩:∃s,m[k]?=some s:=⟨m[k]'(by have:=HN.out;omega),List.getElem?_eq_getElem _⟩;obtain⟨g,off,va,rfl,hg,c0,c1,c2,hA⟩:=(HR.out.below (HL.out.bel.mono hE)).at hs;obtain⟨vd,vc,hva⟩:=hA.shape;obtain⟨na,hna⟩:∃na,s.arcs.length=na:=⟨_,rfl⟩;rw[hna]at hva;subst hva;have hFS:=zHa m 0 k s HFM.out hs;rw[Nat.zero_add]at hFS;obtain⟨q1,q2,q3⟩:=zEo hFS;have hEq:bndB base [] m=(okR base (behR s known)&&bndB base (known++[behR s known]) (m.drop (k+1))):=HL.out.eq.trans (bnd_at hs);have hso:=HR.out.ok s (List.mem_of_getElem? hs);obtain⟨W1,hW1⟩:∃W1,W1=wr.alloc (.cells #[.bool s.final,.int .i64 s.out,.slice vd na vc] 91):=⟨_,rfl⟩;obtain⟨sb,hsb⟩:∃sb,sb=wr.heap.size:=⟨_,rfl⟩;(have hn1:W1.heap[sb]?=some (.cells #[.bool s.final,.int .i64 s.out,.slice vd na vc] 91):=by rw[hW1,hsb];exact zAb _ _);(have a0:W1.cell? ⟨sb,0,none⟩=some (.bool s.final):=by simp[World.cell?,hn1]);(have a1:W1.cell? ⟨sb,1,none⟩=some (.int .i64 s.out):=by simp[World.cell?,hn1]);(have a2:W1.cell? ⟨sb,2,none⟩=some (.slice vd na vc):=by simp[World.cell?,hn1]);(have hb1':Below wr.heap.size wr W1:=by rw[hW1];exact(Below.refl _ wr).alloc (Nat.le_refl _) _);have HB1:Hid (Below wr.heap.size wr W1):=hb1';have hEw:E≤wr.heap.size:=Nat.le_trans hE HL.out.bel.size;have hA1:=hA.below (hb1'.mono hEw);have hK1:GRow W1.heap.size 3 W1 (.slice kd k kc) (known.map zEd):=(HL.out.row.below hb1').reads
    have HBH:Hid (Calls Tryz.prog 143 #[.agg #[.bool s.final,.int .i64 s.out,.slice vd na vc],.slice kd k kc] W1 fun e w'=>e = .returned (.agg #[.int .i64 (behR s known).arcs,.int .i64 (behR s known).words,.int .i64 (behR s known).weight])∧Below W1.heap.size W1 w'):=
     zS2 W1.heap.size W1 s _ _ known ⟨hA1.row.mono (Nat.le_trans hEw hb1'.size),hA1.ok,hA1.len⟩ hK1 (Nat.le_refl _) (fun a ha=>by have:=q1 a ha;rw[HL.out.len];exact this) HL.out.ok q3 hso.2 q2
    have HKO:Hid (okR base (behR s known)=true→KnOk (behR s known)):=beh_ok hb1 HL.out.ok q2;have HEQ:Hid (bndB base [] m=(okR base (behR s known)&&bndB base (known++[behR s known]) (m.drop (k+1)))):=hEq;clear hs hA hFS q1 q2 q3 hEq hso hb1' hA1 hK1 hna HS0;generalize behR s known=R at *;clear hn1;(go_upto_region 5 with fail);rw[←hW1,←hsb];clear hW1 hsb c0 c1 c2;(go_upto_region 6 with(go_at_call 143;refine HBH.out.mono ?_;rintro e w2 ⟨rfl,hb2'⟩;have HB2:Hid (Below W1.heap.size W1 w2):=hb2';clear hb2'));obtain⟨rb,hrb⟩:∃rb,rb=w2.heap.size:=⟨_,rfl⟩;obtain⟨w3,hw3⟩:∃w3,w3=w2.alloc (.cells #[.int .i64 R.arcs,.int .i64 R.words,.int .i64 R.weight] 218):=⟨_,rfl⟩;(have hb3:Below w2.heap.size w2 w3:=by rw[hw3];exact(Below.refl _ w2).alloc (Nat.le_refl _) _);have hr3:RcBlk rb R w3:=⟨by rw[hw3,hrb];exact zAb _ _⟩;have hb03:Below wr.heap.size wr w3:=HB1.out.trans ((HB2.out.trans (hb3.mono HB2.out.size)).mono HB1.out.size);have hmac:w3.heap[mb]?=some (.cells #[.int .i64 base,.slice (some ⟨g,off,none⟩) n cap] 39):=(hb03.block mb (Array.getElem?_eq_some_iff.1 HL.out.mac).1).trans HL.out.mac;have HBW:Hid (Below w.heap.size w w3):=HL.out.bel.trans (hb03.mono HL.out.bel.size);have HOW:Hid (GOwn 218 3 w.heap.size w3 (.slice kd k kc) (known.map zEd)):=HL.out.row.below hb03;have HMAC:Hid (w3.heap[mb]?=some (.cells #[.int .i64 base,.slice (some ⟨g,off,none⟩) n cap] 39)):=hmac;(have hm0:w3.cell? ⟨mb,0,none⟩=some (.int .i64 base):=by simp[World.cell?,hmac]);obtain⟨r0,r1,r2,_⟩:=hr3.facts;rw[←hrb,←hw3];clear a0 a1 a2 hrb hw3 hb3 hr3 hb03 hmac;by_cases hA:24<R.arcs
    · have HF:Hid (bndB base [] m=false):=by show _=_;rw[HEQ.out,okR,decide_eq_false (by omega)];rfl
      clear HEQ HKO;go_wp2;go_ret;exact⟨by rw[HF.out];rfl,HBW.out⟩
    · by_cases hW:4096<R.words
      · have HF:Hid (bndB base [] m=false):=by show _=_;rw[HEQ.out,okR,decide_eq_false (by omega)];rfl
        clear HEQ HKO;go_wp2;go_ret;exact⟨by rw[HF.out];rfl,HBW.out⟩
      · by_cases hG:1048576-base<R.weight
        · have HF:Hid (bndB base [] m=false):=by show _=_;rw[HEQ.out,okR,decide_eq_false (by omega)];rfl
          clear HEQ HKO;go_wp2;go_ret;exact⟨by rw[HF.out];rfl,HBW.out⟩
        · have hok:okR base R=true:=by rw[okR,decide_eq_true (by omega)]
          (have HF:Hid (bndB base [] m=bndB base (known++[R]) (m.drop (k+1))):=by show _=_;rw[HEQ.out,hok];rfl);have HKR:Hid (KnOk R):=HKO.out hok;(have HLN:Hid ((known.map zEd).length<1099511627776):=by show _<_;rw[List.length_map,HL.out.len];omega);have HBS:Hid (w.heap.size≤w3.heap.size):=HBW.out.size;clear HEQ HKO hok;go_wp2_with (at_builtin;refine zC3 rtyRc (by rfl) _ _ [.int .i64 R.arcs,.int .i64 R.words,.int .i64 R.weight] _ rfl w.heap.size _ _ _ _ rfl HOW.out rfl rfl (zW4 R) HLN.out HBS.out ?_;intro v5 w5 ho5 hb5 hg5;obtain⟨d5,e5,hv5,_⟩:=ho5.shape;rw[List.length_append,List.length_map,HL.out.len]at hv5;simp only[List.length_singleton]at hv5;subst hv5;have HO5:Hid _:=ho5;have HB5:Hid _:=hb5;have HG5:Hid _:=hg5;clear ho5 hb5 hg5);have HNX:Hid (BLoop w w5 base m mb (.slice (some ⟨g,off,none⟩) n cap) (.slice d5 (k+1) e5) (known++[R]) (k+1)):=by
           refine⟨HBW.out.trans (HB5.out.mono (Nat.le_refl _)),?_,by rw[List.length_append,HL.out.len];rfl,fun r hr=>?_,HF.out,?_⟩
           · rw[List.map_append]
             exact HO5.out
           · rcases List.mem_append.1 hr with h|h
             · exact HL.out.ok r h
             · rw[List.mem_singleton.1 h]
               exact HKR.out
           · have hlt3:=(Array.getElem?_eq_some_iff.1 HMAC.out).1
             refine(HG5.out.block mb (by simp;omega) (fun e=>?_)).trans (((MapKept.heap_alloc _ _).2 mb hlt3).trans HMAC.out);obtain⟨_,cur,hc⟩:=GOwn.block HOW.out e.symm;rw[HMAC.out]at hc;simp only[Option.some.injEq,Obj.cells.injEq]at hc;exact absurd hc.2.1 (by decide)
          go_roundg (n-(k+1));(case measure=>omega);case rel=>exact⟨k+1,_,_,_,by go_num,by omega,Nat.le_refl _,rfl,HNX⟩
  · have hltz:¬(k:Int)<(n:Int):=by omega
    have HE:Hid (bndB base [] m=true):=by
     show _=_;rw[HL.out.eq,List.drop_of_length_le (by have:=HN.out;omega)];rfl
    go_wp2;go_ret;exact⟨by rw[HE.out];rfl,HL.out.bel⟩
end
