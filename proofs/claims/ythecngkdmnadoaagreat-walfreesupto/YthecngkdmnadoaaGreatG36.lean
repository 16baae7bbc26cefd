/- Texts that were written apart, joined. -/
import Derived.Test.YthecngkdmnadoaaGreatG34
namespace Go.Proofs.YthecngkdmnadoaaGreat
open Go.RowKit
set_option maxRecDepth 100000
def OpenSays(N p:Nat)(fp:List Nat)(r:Int×LG)(w:World)(e:Ending)(w':World):Prop:=
 (¬r.1=0∧e = .returned (.tuple #[.pointer none,.int .i64 r.1])∧∃fp',DiskAt N w' p r.2.d fp'∧Only fp w w'∧∀k∈fp',k∈fp∨w.heap.size≤k) ∨
 (r.1=0∧∃b v fp' s,e = .returned (.tuple #[.pointer (some ⟨b,0,none⟩),.int .i64 0])∧LogAt N w' b r.2 v fp' s∧v.p=p∧w.heap.size≤b∧Only fp w w'∧∀k∈logF b v fp',k∈fp∨w.heap.size≤k)
structure OpI(N b:Nat)(d:DS)(fr:Nat)(nx:Nat)(p:Nat)(fp:List Nat)(w w2:World)(nv:Value)(xs:List Nat)(i:Nat)(g':LG)(v':WV)(fp':List Nat)(s':List Sv)(R:Int×LG)(wr:World):Prop where
 log:LogAt N wr b g' v' fp' s'
 ok:OpOk d nx xs i g'
 p:v'.p=p
 bl:w.heap.size≤b
 only:Only fp w wr
 sub:∀k∈logF b v' fp',k∈fp∨w.heap.size≤k
 rest:R=takesG fr g' (xs.drop i)
 row:NRow (logF b v' fp') wr nv xs
theorem OpI.skip{N b:Nat}{d:DS}{fr nx p:Nat}{fp:List Nat}{w w2:World}{nv:Value}{xs:List Nat}{i n:Nat}{g':LG}{v':WV}{fp':List Nat}{s':List Sv}{R:Int×LG}{wr:World}(h:OpI N b d fr nx p fp w w2 nv xs i g' v' fp' s' R wr)(hx:xs[i]?=some n)(hn:n<fr):OpI N b d fr nx p fp w w2 nv xs (i+1) g' v' fp' s' R wr:=
 ⟨h.log,h.ok.more,h.p,h.bl,h.only,h.sub,by rw[h.rest,drop_cons hx,takesG,if_pos hn],h.row⟩
theorem OpI.took{N b:Nat}{d:DS}{fr nx p:Nat}{fp:List Nat}{w w2:World}{nv:Value}{xs:List Nat}{i n:Nat}{g' g2:LG}{v' v2:WV}{fp' fp2:List Nat}{s' s2:List Sv}{R:Int×LG}{wr wr2:World}(h:OpI N b d fr nx p fp w w2 nv xs i g' v' fp' s' R wr)(hx:xs[i]?=some n)(hn:¬n<fr)(hn2:n≤1152921504606846976)(ht:takeG g' n=(0,g2))(hB:∀a i u,curOf d.secs a i=some u→∀y∈u,y<256)
 (hl:LogAt N wr2 b g2 v2 fp2 s2) (hp:v2.p=v'.p) (ho:Only (logF b v' fp') wr wr2) (hs:∀k∈logF b v2 fp2,k∈logF b v' fp'∨wr.heap.size≤k):OpI N b d fr nx p fp w w2 nv xs (i+1) g2 v2 fp2 s2 R wr2:=by
 have hk:=takeG_ok g' n (fun j u=>by rw[h.ok.d];exact hB _ j u);rw[ht]at hk;refine⟨hl,h.ok.take hx hk hn2,hp.trans h.p,h.bl,h.only.trans ho h.sub,fun k hk=>?_,?_,h.row.step ho hs⟩
 · rcases hs k hk with h1|h1
   · exact h.sub k h1
   · exact .inr (Nat.le_trans h.only.size h1)
 · rw[h.rest,drop_cons hx,takesG,if_neg hn,ht,if_neg (by simp)]
theorem OpI.bad{N M b:Nat}{d:DS}{fr nx p:Nat}{fp:List Nat}{w w2:World}{nv:Value}{xs:List Nat}{i:Nat}{e:Int}{g' g2:LG}{v' v2:WV}{fp' fp2:List Nat}{s' s2:List Sv}{R:Int×LG}{wr wr2:World}(h:OpI N b d fr nx p fp w w2 nv xs i g' v' fp' s' R wr)(he:¬e=0)
 (hl:LogAt M wr2 b g2 v2 fp2 s2) (hp:v2.p=v'.p) (ho:Only (logF b v' fp') wr wr2) (hs:∀k∈logF b v2 fp2,k∈logF b v' fp'∨wr.heap.size≤k) {M2:Nat} (hm:M≤M2):OpenSays M2 p fp (e,g2) w (.returned (.tuple #[.pointer none,.int .i64 e])) wr2:=by
 refine .inl ⟨he,rfl,fp2,?_,h.only.trans ho h.sub,fun k hk=>?_⟩
 · have h1:=hl.disk
   rw[hp,h.p]at h1;exact h1.mono hm
 · rcases hs k (by simp[logF,hk])with h1|h1
   · exact h.sub k h1
   · exact .inr (Nat.le_trans h.only.size h1)
theorem OpI.fin{N M b:Nat}{d:DS}{fr nx p:Nat}{fp:List Nat}{w w2:World}{nv:Value}{xs:List Nat}{i:Nat}{g' g2:LG}{v' v2:WV}{fp' fp2:List Nat}{s' s2:List Sv}{R:Int×LG}{wr wr2:World}(h:OpI N b d fr nx p fp w w2 nv xs i g' v' fp' s' R wr)
 (hl:LogAt M wr2 b g2 v2 fp2 s2) (hp:v2.p=v'.p) (ho:Only (logF b v' fp') wr wr2) (hs:∀k∈logF b v2 fp2,k∈logF b v' fp'∨wr.heap.size≤k) {M2:Nat} (hm:M≤M2):OpenSays M2 p fp (0,g2) w (.returned (.tuple #[.pointer (some ⟨b,0,none⟩),.int .i64 0])) wr2:=by
 refine .inr ⟨rfl,b,v2,fp2,s2,rfl,hl.more hm,hp.trans h.p,h.bl,h.only.trans ho h.sub,fun k hk=>?_⟩;rcases hs k hk with h1|h1
 · exact h.sub k h1
 · exact .inr (Nat.le_trans h.only.size h1)
theorem start_log{N p:Nat}{w:World}{d:DS}{fp:List Nat}(h:DiskAt N w p d fp)(fr first:Nat)(A:Nat)(hA:A=4*nextN d fr+1):
 LogAt N (w.alloc (.cells #[.pointer (some ⟨p,0,none⟩),.int .u64 (first:Int),.slice none 0 0,.slice none 0 0,.int .u64 (nextN d fr:Int),.int .u64 (A:Int),.int .i64 0,.slice none 0 0,.bool false,.int .i64 0] 83)) w.heap.size (startG d fr first) ⟨p,none,0,none,0,0,none,0⟩ fp []:=by
 subst hA;have hb:Below w.heap.size w (w.alloc (.cells #[.pointer (some ⟨p,0,none⟩),.int .u64 (first:Int),.slice none 0 0,.slice none 0 0,.int .u64 (nextN d fr:Int),.int .u64 ((4*nextN d fr+1:Nat):Int),.int .i64 0,.slice none 0 0,.bool false,.int .i64 0] 83)):=(Below.refl _ w).alloc (Nat.le_refl _) _;have hlt:=h.lt;refine⟨h.below hb,alloc_newQ w _,QOwn.nil 0 _,SOwn.nil 0 _,fun i x xs q1=>by simp at q1,⟨(Bytes.nil 0 _).row,fun bb off len cap e _=>by cases e⟩,fun hm=>by have:=hlt _ hm;omega,fun k hk=>by simp[ownB]at hk,fun k hk=>by simp[ownB]at hk⟩
set_option maxHeartbeats 4000000 in
theorem Open_any(N p fr first:Nat)(d:DS)(fp:List Nat)(w:World)(h:DiskAt N w p d fp)(hN:N<130000000000)(hfr:fr<18446744073709551616)(hfi:first<18446744073709551616)
 (hok:∀a∈areasS d.secs,0≤a∧a<18446744073709551616) (hup:nextN d fr≤1152921504606846976→∀x∈numsN d,x≤1152921504606846976) (hcnt:(numsN d).length≤1073741824) (hts:tsum d.secs (numsN d)≤68000000000)
 (hB:∀a i u,curOf d.secs a i=some u→∀y∈u,y<256):
 Calls Tryz.prog 12 #[.pointer (some ⟨p,0,none⟩),.int .u64 (fr:Int),.int .u64 (first:Int)] w (OpenSays (N+(numsN d).length) p fp (openG d fr first) w):=by
 have HD:Hid (DiskAt N w p d fp):=h;have hno:=numbersOn_any N p d fp w h (by omega) hok;rw[numsN_eq d hok]at hno;have hxs4:∀x∈numsN d,x<4611686018427387904:=by
  intro x hx;unfold numsN numsOf at hx;obtain⟨a,ha,rfl⟩:=List.mem_map.1 hx;obtain⟨c,hc,rfl⟩:=List.mem_map.1 ha;have h1:=hok c (List.mem_filter.1 hc).1;rw[Int.tdiv_eq_ediv_of_nonneg h1.1];omega
 obtain⟨xs,hxs⟩:∃xs,numsN d=xs:=⟨_,rfl⟩;have HXS:Hid (numsN d=xs):=hxs;rw[hxs]at hno hup hcnt hts hxs4 ⊢;have HTS:Hid (tsum d.secs xs≤68000000000):=hts;clear hts;have HDE:Hid (Calls Tryz.prog 34 #[.pointer (some ⟨p,0,none⟩)] w fun e w'=>e = .returned (.bool d.dead)∧w'=w):=Dead_any N p d fp w h;cases hdd:d.dead with
 |true=>
  rw[hdd]at HDE;have hg:openG d fr first=(30,startG d fr first):=if_pos hdd;rw[hg];clear h hno hg hdd hok hup hB hxs;go_enter Tryz.func12,Tryz.ntmps12;go_wp2_with (go_at_call 34;refine HDE.out.mono ?_;rintro e w1 ⟨rfl,hw1⟩;subst w1);go_ret2;exact .inl ⟨by show ¬(30:Int)=0;decide,rfl,fp,HD.out.mono (Nat.le_add_right _ _),Only.refl _ _,fun k hk => .inl hk⟩
 |false=>
  rw[hdd]at HDE;have HDD:Hid (d.dead=false):=hdd;have HNO:Hid (Calls Tryz.prog 37 #[.pointer (some ⟨p,0,none⟩)] w fun e w'=>∃v,e = .returned v∧NOwn w.heap.size w' v (xs.map Int.ofNat)∧Below w.heap.size w w'):=hno;obtain⟨len,hlen⟩:∃len,xs.length=len:=⟨_,rfl⟩;have HLEN:Hid (xs.length=len):=hlen;rw[hlen]at hcnt ⊢;clear hno hdd hok hxs hlen;rcases Nat.eq_zero_or_pos len with h0|h0
  · have hnil:xs=[]:=List.eq_nil_of_length_eq_zero (by rw[HLEN.out];exact h0)
    (have HN0:Hid (nextN d fr=fr):=by show _=_;unfold nextN;rw[HXS.out,hnil];rfl);(have h0z:¬(0:Int)<(len:Int):=by omega);have H00:Hid (len=0):=h0;clear hnil h0;by_cases hbad:1152921504606846976<fr∨4611686018427387904<first
    · have hg:openG d fr first=(52,startG d fr first):=by
       unfold openG;rw[if_neg (by simp[HDD.out]),HN0.out,if_pos hbad]
      rw[hg];clear hg;(have hbz:(1152921504606846976<(fr:Int))∨(¬(1152921504606846976<(fr:Int))∧(4611686018427387904<(first:Int))):=by omega);clear hbad;rcases hbz with q1|⟨q1,q2⟩
      all_goals
       go_enter Tryz.func12,Tryz.ntmps12
       go_wp2_with (first
        |(go_at_call 34;refine HDE.out.mono ?_;rintro e w1 ⟨rfl,hw1⟩;subst w1)
        |(go_at_call 37;refine HNO.out.mono ?_;rintro e w1 ⟨nv,rfl,hnv,hb1⟩;obtain⟨na,nc,rfl⟩:=hnv.shape;have hnr:=hnv.nrow (xs:=xs) rfl (F:=fp) HD.out.lt;rw[List.length_map,HLEN.out]at hnr ⊢;have H1:Hid (NOwn w.heap.size w1 (.slice na len nc) (xs.map Int.ofNat)∧Below w.heap.size w w1):=⟨by rw[List.length_map,HLEN.out]at hnv;exact hnv,hb1⟩;skip;clear hnv hb1 hnr))
       go_ret2;exact .inl ⟨by show ¬(52:Int)=0;decide,rfl,fp,(HD.out.below H1.out.2).mono (Nat.le_add_right _ _),Only.of_below H1.out.2,fun k hk => .inl hk⟩
    · have q1:¬(1152921504606846976<(fr:Int)):=by omega
      (have q2:¬(4611686018427387904<(first:Int)):=by omega);(have hnx:fr≤1152921504606846976:=by omega);have HQ:Hid (fr≤1152921504606846976∧first≤4611686018427387904):=⟨by omega,by omega⟩;have HUP:Hid (∀x∈xs,x≤1152921504606846976):=hup (by rw[HN0.out];exact hnx);have HOG:Hid (openG d fr first=if ¬(takesG fr (startG d fr first) xs).1=0 then takesG fr (startG d fr first) xs else tidyG (takesG fr (startG d fr first) xs).2 xs):=by
       show _=_;unfold openG;rw[if_neg (by simp[HDD.out]),if_neg (by rw[HN0.out];exact hbad),HXS.out]
      obtain⟨A,hA⟩:∃A:Nat,4*fr+1=A:=⟨_,rfl⟩;(have HA:Hid (A=4*nextN d fr+1):=by show _=_;rw[HN0.out,hA]);(have HAR:Hid (∀W,Calls Tryz.prog 38 #[.int .u64 (fr:Int)] W fun e w'=>e = .returned (.int .u64 (A:Int))∧w'=W):=fun W=>hA▸areaOf_any fr W hnx);clear hbad hA hnx;go_enter Tryz.func12,Tryz.ntmps12
      go_wp2_with (first
       |(go_at_call 34;refine HDE.out.mono ?_;rintro e w1 ⟨rfl,hw1⟩;subst w1)
       |(go_at_call 37;refine HNO.out.mono ?_;rintro e w1 ⟨nv,rfl,hnv,hb1⟩;obtain⟨na,nc,rfl⟩:=hnv.shape;have hnr:=hnv.nrow (xs:=xs) rfl (F:=fp) HD.out.lt;rw[List.length_map,HLEN.out]at hnr ⊢;have H1:Hid (NOwn w.heap.size w1 (.slice na len nc) (xs.map Int.ofNat)∧Below w.heap.size w w1):=⟨by rw[List.length_map,HLEN.out]at hnv;exact hnv,hb1⟩;skip;clear hnv hb1 hnr)
       |(go_at_call 38;refine(HAR.out _).mono ?_;rintro e w3 ⟨rfl,hw3⟩;subst w3))
      obtain⟨w2,hw2⟩:∃w2,w1.alloc (.cells #[.pointer (some ⟨p,0,none⟩),.int .u64 (first:Int),.slice none 0 0,.slice none 0 0,.int .u64 (fr:Int),.int .u64 (A:Int),.int .i64 0,.slice none 0 0,.bool false,.int .i64 0] 83)=w2:=⟨_,rfl⟩;rw[hw2];obtain⟨b,hb⟩:∃b,w1.heap.size=b:=⟨_,rfl⟩;rw[hb];obtain⟨v0,hv0⟩:∃v0:WV,⟨p,none,0,none,0,0,none,0⟩=v0:=⟨_,rfl⟩;obtain⟨re,rg,hR⟩:∃re rg,takesG fr (startG d fr first) xs=(re,rg):=⟨_,_,rfl⟩;have HST:Hid (OpI N b d fr fr p fp w w2 (.slice na len nc) xs 0 (startG d fr first) v0 fp [] (re,rg) w2):=by
       have hd1:DiskAt N w1 p d fp:=HD.out.below H1.out.2;have hsl:=start_log hd1 fr first A HA.out;rw[HN0.out,hw2,hb,hv0]at hsl;(have hb2:Below w1.heap.size w1 w2:=by rw[←hw2];exact(Below.refl _ w1).alloc (Nat.le_refl _) _);(have hbw:w.heap.size≤b:=by rw[←hb];exact H1.out.2.size);have hsb:∀k∈logF b v0 fp,k∈fp∨w1.heap.size≤k:=fun k hk=>by
        rw[←hv0]at hk;simp only[logF,ownB,Option.map_none,Option.toList_none,List.nil_append,List.mem_cons]at hk;rcases hk with h1|h1
        · exact .inr (by omega)
        · exact .inl h1
       refine⟨hsl,⟨rfl,HN0.out,rfl,rfl,rfl,rfl,by show 4*nextN d fr+1=4*fr+1;rw[HN0.out],HQ.out.2,Nat.zero_le _,Nat.le_refl _,fun y hy=>by cases hy⟩,by rw[←hv0],hbw,Only.of_below (H1.out.2.trans (hb2.mono H1.out.2.size)),fun k hk=>?_,hR.symm,?_⟩
       · exact(hsb k hk).imp id (fun h=>by omega)
       · exact(H1.out.1.nrow rfl (F:=fp) HD.out.lt).step (Only.of_below hb2) hsb
      have HRR:Hid (takesG fr (startG d fr first) xs=(re,rg)):=hR;clear hw2 hb hv0 hR
      go_loopg [49] len (fun m t49 wr=>∃(i:Nat) (g':LG) (v':WV) (fp':List Nat) (s':List Sv),t49 = .int .i64 (i:Int)∧i≤len∧len-i≤m∧Hid (OpI N b d fr fr p fp w w2 (.slice na len nc) xs i g' v' fp' s' (re,rg) wr))
      case atStart=>exact⟨0,_,_,_,_,rfl,Nat.zero_le _,Nat.le_refl _,HST⟩
      case round=>
       clear HST q1;obtain⟨i,g',v',fp',s',rfl,hil,him,H⟩:=hrel;by_cases hin:i<len
       · exact absurd hin (by have:=H00.out;omega)
       · have hie:i=len:=by omega
         subst hie;have HRE:Hid (openG d fr first=tidyG g' xs):=by
          show _=_;have h1:=H.out.rest;rw[List.drop_eq_nil_of_le (Nat.le_of_eq HLEN.out),takesG]at h1;rw[HOG.out,HRR.out,h1,if_neg (by simp)]
         have hti:=tidy_any N b g' v' fp' s' (.slice na i nc) xs wr H.out.log H.out.row (H.out.ok.lok HTS.out (by omega) HQ.out.1) (by omega) HUP.out (by rw[HLEN.out];omega);obtain⟨te,tg,htg⟩:∃te tg,tidyG g' xs=(te,tg):=⟨_,_,rfl⟩;have HTG:Hid (tidyG g' xs=(te,tg)):=htg;rw[htg,HLEN.out]at hti;have HTI:Hid (Calls Tryz.prog 40 #[.pointer (some ⟨b,0,none⟩),.slice na i nc] wr (LogSays (N+i) b (te,tg) v' fp' wr)):=hti;clear hti htg;by_cases ht0:te=0
         · subst ht0
           go_wp2_with (go_at_call 40;refine HTI.out.mono ?_;rintro e w5 ⟨rfl,v5,fp5,s5,hL5,hp5,ho5,hs5⟩;have H5:Hid (LogAt (N+i) w5 b tg v5 fp5 s5∧v5.p=v'.p∧Only (logF b v' fp') wr w5∧∀k∈logF b v5 fp5,k∈logF b v' fp'∨wr.heap.size≤k):=⟨hL5,hp5,ho5,hs5⟩;clear hL5 hp5 ho5 hs5);go_ret2;rw[HRE.out,HTG.out];exact H.out.fin H5.out.1 H5.out.2.1 H5.out.2.2.1 H5.out.2.2.2 (Nat.le_refl _)
         · have ht0b:(te==0)=false:=by simpa using ht0
           have HNE:Hid (¬te=0):=ht0;clear ht0;go_wp2_with (go_at_call 40;refine HTI.out.mono ?_;rintro e w5 ⟨rfl,v5,fp5,s5,hL5,hp5,ho5,hs5⟩;have H5:Hid (LogAt (N+i) w5 b tg v5 fp5 s5∧v5.p=v'.p∧Only (logF b v' fp') wr w5∧∀k∈logF b v5 fp5,k∈logF b v' fp'∨wr.heap.size≤k):=⟨hL5,hp5,ho5,hs5⟩;clear hL5 hp5 ho5 hs5);go_ret2;rw[HRE.out,HTG.out];exact H.out.bad HNE.out H5.out.1 H5.out.2.1 H5.out.2.2.1 H5.out.2.2.2 (Nat.le_refl _)
  · obtain⟨x,hx⟩:∃x,xs[len-1]?=some x:=⟨_,List.getElem?_eq_getElem (by rw[HLEN.out];omega)⟩
    have hx4:=hxs4 x (List.mem_of_getElem? hx);have HX:Hid (xs[len-1]?=some x):=hx;(have h0z:(0:Int)<(len:Int):=by omega);(have hlz:((len:Int)-1)=((len-1:Nat):Int):=by omega);obtain⟨nx,hnx⟩:∃nx,max fr (x+1)=nx:=⟨_,rfl⟩;have HN0:Hid (nextN d fr=nx):=by
     show _=_;unfold nextN;(have hl:xs.getLast?=some x:=by rw[List.getLast?_eq_getElem?,HLEN.out];exact hx);rw[HXS.out,hl,←hnx]
    (have hmx:max (fr:Int) ((x:Int)+1)=(nx:Int):=by omega);clear hx hnx;by_cases hbad:1152921504606846976<nx∨4611686018427387904<first
    · have hg:openG d fr first=(52,startG d fr first):=by
       unfold openG;rw[if_neg (by simp[HDD.out]),HN0.out,if_pos hbad]
      rw[hg];clear hg;(have hbz:(1152921504606846976<(nx:Int))∨(¬(1152921504606846976<(nx:Int))∧(4611686018427387904<(first:Int))):=by omega);clear hbad;rcases hbz with q1|⟨q1,q2⟩
      all_goals
       go_enter Tryz.func12,Tryz.ntmps12
       go_wp2_with (first
        |(go_at_call 34;refine HDE.out.mono ?_;rintro e w1 ⟨rfl,hw1⟩;subst w1)
        |(go_at_call 37;refine HNO.out.mono ?_;rintro e w1 ⟨nv,rfl,hnv,hb1⟩;obtain⟨na,nc,rfl⟩:=hnv.shape;have hnr:=hnv.nrow (xs:=xs) rfl (F:=fp) HD.out.lt;rw[List.length_map,HLEN.out]at hnr ⊢;have H1:Hid (NOwn w.heap.size w1 (.slice na len nc) (xs.map Int.ofNat)∧Below w.heap.size w w1):=⟨by rw[List.length_map,HLEN.out]at hnv;exact hnv,hb1⟩;obtain⟨gn,rfl,hgn,hcn⟩:=hnr.at HX.out;clear hnv hb1 hnr))
       go_ret2;exact .inl ⟨by show ¬(52:Int)=0;decide,rfl,fp,(HD.out.below H1.out.2).mono (Nat.le_add_right _ _),Only.of_below H1.out.2,fun k hk => .inl hk⟩
    · have q1:¬(1152921504606846976<(nx:Int)):=by omega
      (have q2:¬(4611686018427387904<(first:Int)):=by omega);(have hnx:nx≤1152921504606846976:=by omega);have HQ:Hid (nx≤1152921504606846976∧first≤4611686018427387904):=⟨by omega,by omega⟩;have HUP:Hid (∀x∈xs,x≤1152921504606846976):=hup (by rw[HN0.out];exact hnx);have HOG:Hid (openG d fr first=if ¬(takesG fr (startG d fr first) xs).1=0 then takesG fr (startG d fr first) xs else tidyG (takesG fr (startG d fr first) xs).2 xs):=by
       show _=_;unfold openG;rw[if_neg (by simp[HDD.out]),if_neg (by rw[HN0.out];exact hbad),HXS.out]
      obtain⟨A,hA⟩:∃A:Nat,4*nx+1=A:=⟨_,rfl⟩;(have HA:Hid (A=4*nextN d fr+1):=by show _=_;rw[HN0.out,hA]);(have HAR:Hid (∀W,Calls Tryz.prog 38 #[.int .u64 (nx:Int)] W fun e w'=>e = .returned (.int .u64 (A:Int))∧w'=W):=fun W=>hA▸areaOf_any nx W hnx);clear hbad hA hnx;go_enter Tryz.func12,Tryz.ntmps12
      go_wp2_with (first
       |(go_at_call 34;refine HDE.out.mono ?_;rintro e w1 ⟨rfl,hw1⟩;subst w1)
       |(go_at_call 37;refine HNO.out.mono ?_;rintro e w1 ⟨nv,rfl,hnv,hb1⟩;obtain⟨na,nc,rfl⟩:=hnv.shape;have hnr:=hnv.nrow (xs:=xs) rfl (F:=fp) HD.out.lt;rw[List.length_map,HLEN.out]at hnr ⊢;have H1:Hid (NOwn w.heap.size w1 (.slice na len nc) (xs.map Int.ofNat)∧Below w.heap.size w w1):=⟨by rw[List.length_map,HLEN.out]at hnv;exact hnv,hb1⟩;obtain⟨gn,rfl,hgn,hcn⟩:=hnr.at HX.out;clear hnv hb1 hnr)
       |(go_at_call 38;refine(HAR.out _).mono ?_;rintro e w3 ⟨rfl,hw3⟩;subst w3))
      obtain⟨w2,hw2⟩:∃w2,w1.alloc (.cells #[.pointer (some ⟨p,0,none⟩),.int .u64 (first:Int),.slice none 0 0,.slice none 0 0,.int .u64 (nx:Int),.int .u64 (A:Int),.int .i64 0,.slice none 0 0,.bool false,.int .i64 0] 83)=w2:=⟨_,rfl⟩;rw[hw2];obtain⟨b,hb⟩:∃b,w1.heap.size=b:=⟨_,rfl⟩;rw[hb];obtain⟨v0,hv0⟩:∃v0:WV,⟨p,none,0,none,0,0,none,0⟩=v0:=⟨_,rfl⟩;obtain⟨re,rg,hR⟩:∃re rg,takesG fr (startG d fr first) xs=(re,rg):=⟨_,_,rfl⟩;have HST:Hid (OpI N b d fr nx p fp w w2 (.slice (some ⟨gn,0,none⟩) len nc) xs 0 (startG d fr first) v0 fp [] (re,rg) w2):=by
       have hd1:DiskAt N w1 p d fp:=HD.out.below H1.out.2;have hsl:=start_log hd1 fr first A HA.out;rw[HN0.out,hw2,hb,hv0]at hsl;(have hb2:Below w1.heap.size w1 w2:=by rw[←hw2];exact(Below.refl _ w1).alloc (Nat.le_refl _) _);(have hbw:w.heap.size≤b:=by rw[←hb];exact H1.out.2.size);have hsb:∀k∈logF b v0 fp,k∈fp∨w1.heap.size≤k:=fun k hk=>by
        rw[←hv0]at hk;simp only[logF,ownB,Option.map_none,Option.toList_none,List.nil_append,List.mem_cons]at hk;rcases hk with h1|h1
        · exact .inr (by omega)
        · exact .inl h1
       refine⟨hsl,⟨rfl,HN0.out,rfl,rfl,rfl,rfl,by show 4*nextN d fr+1=4*nx+1;rw[HN0.out],HQ.out.2,Nat.zero_le _,Nat.le_refl _,fun y hy=>by cases hy⟩,by rw[←hv0],hbw,Only.of_below (H1.out.2.trans (hb2.mono H1.out.2.size)),fun k hk=>?_,hR.symm,?_⟩
       · exact(hsb k hk).imp id (fun h=>by omega)
       · exact(H1.out.1.nrow rfl (F:=fp) HD.out.lt).step (Only.of_below hb2) hsb
      have HRR:Hid (takesG fr (startG d fr first) xs=(re,rg)):=hR;clear hw2 hb hv0 hR
      go_loopg [49] len (fun m t49 wr=>∃(i:Nat) (g':LG) (v':WV) (fp':List Nat) (s':List Sv),t49 = .int .i64 (i:Int)∧i≤len∧len-i≤m∧Hid (OpI N b d fr nx p fp w w2 (.slice (some ⟨gn,0,none⟩) len nc) xs i g' v' fp' s' (re,rg) wr))
      case atStart=>exact⟨0,_,_,_,_,rfl,Nat.zero_le _,Nat.le_refl _,HST⟩
      case round=>
       clear HST hcn hgn;obtain⟨i,g',v',fp',s',rfl,hil,him,H⟩:=hrel;by_cases hin:i<len
       · obtain⟨n,hn⟩:∃n,xs[i]?=some n:=⟨_,List.getElem?_eq_getElem (by rw[HLEN.out];exact hin)⟩
         have HNI:Hid (xs[i]?=some n):=hn;have hn2:n≤1152921504606846976:=HUP.out n (List.mem_of_getElem? hn);obtain⟨gm,hgme,hgm,hcm⟩:=H.out.row.at hn;simp only[Option.some.injEq,Addr.mk.injEq,and_true]at hgme;subst hgme;(have hinz:(i:Int)<(len:Int):=by omega);clear hn;by_cases hnf:n<fr
         · have hnfz:(n:Int)<(fr:Int):=by omega
           have HNF:Hid (n<fr):=hnf;clear hnf;go_wp2_with fail;go_roundg (len-(i+1));(case measure=>omega);case rel=>exact⟨i+1,g',v',fp',s',by go_num,by omega,Nat.le_refl _,H.out.skip HNI.out HNF.out⟩
         · have hnfz:¬(n:Int)<(fr:Int):=by omega
           have HNF:Hid (¬n<fr):=hnf;have hta:=take_any N b n g' v' fp' s' wr H.out.log (H.out.ok.lok HTS.out (by omega) HQ.out.1) (by omega) hn2 (by have:=H.out.ok.Ls HTS.out;omega) (fun j u=>by rw[H.out.ok.d];exact hB _ j u);obtain⟨te,tg,htg⟩:∃te tg,takeG g' n=(te,tg):=⟨_,_,rfl⟩;have HTG:Hid (takeG g' n=(te,tg)):=htg;rw[htg]at hta;have HTA:Hid (Calls Tryz.prog 39 #[.pointer (some ⟨b,0,none⟩),.int .u64 (n:Int)] wr (LogSays N b (te,tg) v' fp' wr)):=hta;clear hta htg hnf;by_cases ht0:te=0
           · subst ht0
             go_wp2_with (go_at_call 39;refine HTA.out.mono ?_;rintro e w5 ⟨rfl,v5,fp5,s5,hL5,hp5,ho5,hs5⟩;have H5:Hid (LogAt N w5 b tg v5 fp5 s5∧v5.p=v'.p∧Only (logF b v' fp') wr w5∧∀k∈logF b v5 fp5,k∈logF b v' fp'∨wr.heap.size≤k):=⟨hL5,hp5,ho5,hs5⟩;clear hL5 hp5 ho5 hs5);go_roundg (len-(i+1));(case measure=>omega);case rel=>exact⟨i+1,tg,v5,fp5,s5,by go_num,by omega,Nat.le_refl _,H.out.took HNI.out HNF.out hn2 HTG.out hB H5.out.1 H5.out.2.1 H5.out.2.2.1 H5.out.2.2.2⟩
           · have ht0b:(te==0)=false:=by simpa using ht0
             have HNE:Hid (¬te=0):=ht0;clear ht0;go_wp2_with (go_at_call 39;refine HTA.out.mono ?_;rintro e w5 ⟨rfl,v5,fp5,s5,hL5,hp5,ho5,hs5⟩;have H5:Hid (LogAt N w5 b tg v5 fp5 s5∧v5.p=v'.p∧Only (logF b v' fp') wr w5∧∀k∈logF b v5 fp5,k∈logF b v' fp'∨wr.heap.size≤k):=⟨hL5,hp5,ho5,hs5⟩;clear hL5 hp5 ho5 hs5);go_ret2;have hg:openG d fr first=(te,tg):=by
              have h1:=H.out.rest;rw[drop_cons HNI.out,takesG,if_neg HNF.out,HTG.out,if_pos HNE.out]at h1;rw[HOG.out,HRR.out,h1,if_pos HNE.out]
             rw[hg];exact H.out.bad HNE.out H5.out.1 H5.out.2.1 H5.out.2.2.1 H5.out.2.2.2 (Nat.le_add_right _ _)
       · have hie:i=len:=by omega
         subst hie;have HRE:Hid (openG d fr first=tidyG g' xs):=by
          show _=_;have h1:=H.out.rest;rw[List.drop_eq_nil_of_le (Nat.le_of_eq HLEN.out),takesG]at h1;rw[HOG.out,HRR.out,h1,if_neg (by simp)]
         have hti:=tidy_any N b g' v' fp' s' (.slice (some ⟨gn,0,none⟩) i nc) xs wr H.out.log H.out.row (H.out.ok.lok HTS.out (by omega) HQ.out.1) (by omega) HUP.out (by rw[HLEN.out];omega);obtain⟨te,tg,htg⟩:∃te tg,tidyG g' xs=(te,tg):=⟨_,_,rfl⟩;have HTG:Hid (tidyG g' xs=(te,tg)):=htg;rw[htg,HLEN.out]at hti;have HTI:Hid (Calls Tryz.prog 40 #[.pointer (some ⟨b,0,none⟩),.slice (some ⟨gn,0,none⟩) i nc] wr (LogSays (N+i) b (te,tg) v' fp' wr)):=hti;clear hti htg;by_cases ht0:te=0
         · subst ht0
           go_wp2_with (go_at_call 40;refine HTI.out.mono ?_;rintro e w5 ⟨rfl,v5,fp5,s5,hL5,hp5,ho5,hs5⟩;have H5:Hid (LogAt (N+i) w5 b tg v5 fp5 s5∧v5.p=v'.p∧Only (logF b v' fp') wr w5∧∀k∈logF b v5 fp5,k∈logF b v' fp'∨wr.heap.size≤k):=⟨hL5,hp5,ho5,hs5⟩;clear hL5 hp5 ho5 hs5);go_ret2;rw[HRE.out,HTG.out];exact H.out.fin H5.out.1 H5.out.2.1 H5.out.2.2.1 H5.out.2.2.2 (Nat.le_refl _)
         · have ht0b:(te==0)=false:=by simpa using ht0
           have HNE:Hid (¬te=0):=ht0;clear ht0;go_wp2_with (go_at_call 40;refine HTI.out.mono ?_;rintro e w5 ⟨rfl,v5,fp5,s5,hL5,hp5,ho5,hs5⟩;have H5:Hid (LogAt (N+i) w5 b tg v5 fp5 s5∧v5.p=v'.p∧Only (logF b v' fp') wr w5∧∀k∈logF b v5 fp5,k∈logF b v' fp'∨wr.heap.size≤k):=⟨hL5,hp5,ho5,hs5⟩;clear hL5 hp5 ho5 hs5);go_ret2;rw[HRE.out,HTG.out];exact H.out.bad HNE.out H5.out.1 H5.out.2.1 H5.out.2.2.1 H5.out.2.2.2 (Nat.le_refl _)
end Go.Proofs.YthecngkdmnadoaaGreat

namespace Go.Proofs.YthecngkdmnadoaaGreat
open Go.RowKit
set_option maxRecDepth 100000
structure GSm(k:Nat)(g:LG):Prop where
 next:g.next≤k
 fl:g.first+g.L.length≤k
 many:g.l.length≤k
 pl:∀y∈g.l,y.1<g.next
 tl:g.tl.length<63
 sec:g.sector≤40
theorem GSm.lok{k:Nat}{g:LG}(h:GSm k g)(hk:k≤1073741824):LOk g:=by
 have h1:=h.next;have h2:=h.fl;have h3:=h.many;have h5:=h.tl;have h6:=h.sec
 exact⟨by omega,fun y hy=>by have:=h.pl y hy;omega,by omega,by omega,by omega,by omega,by omega⟩
theorem GSm.more{k m:Nat}{g:LG}(h:GSm k g)(hm:k≤m):GSm m g:=⟨Nat.le_trans h.next hm,Nat.le_trans h.fl hm,Nat.le_trans h.many hm,h.pl,h.tl,h.sec⟩
theorem layF_small(a:Nat):∀(f:Nat) (d:DS) (s:Nat) (left:List Nat),left.length<f→(layF a f d s left).sector≤s+left.length/63∧∀t,(layF a f d s left).tail=some t→t.length<63
 |0,_,_,_,h=>absurd h (Nat.not_lt_zero _)
 |f+1,d,s,left,h=>by
  by_cases h63:63≤left.length
  · by_cases he:wrE d a s (63::left.take 63)=0
    · rw[layF_go h63 he]
      have hl:(left.drop 63).length=left.length-63:=List.length_drop ..;obtain⟨h1,h2⟩:=layF_small a f (wrD d a s (63::left.take 63)) (s+1) (left.drop 63) (by omega);exact⟨by rw[hl]at h1;omega,h2⟩
    · rw[layF_bad h63 he]
      exact⟨Nat.le_add_right _ _,fun t h=>by cases h⟩
  · by_cases h0:left=[]
    · subst h0
      rw[layF_nil];exact⟨Nat.le_add_right _ _,fun t h=>by simp only[Option.some.injEq]at h;subst h;decide⟩
    · rw[layF_end h63 h0]
      exact⟨Nat.le_add_right _ _,fun t h=>by simp only[Option.some.injEq]at h;subst h;omega⟩
theorem layR_small(a:Nat)(d:DS)(s:Nat)(left:List Nat):(layR d a s left).sector≤s+left.length/63∧∀t,(layR d a s left).tail=some t→t.length<63:=layF_small a (left.length+1) d s left (Nat.lt_succ_self _)
theorem getD_small{o:Option (List Nat)}{z:List Nat}(h:∀t,o=some t→t.length<63)(hz:z.length<63):(o.getD z).length<63:=by
 cases o with
 |none=>exact hz
 |some t=>exact h t rfl
theorem beginG_small{k:Nat}{g:LG}(h:GSm k g)(ix:Nat)(x:List Nat)(hix:ix<18446744073709551616)(hx:x.length≤600):GSm (k+1) (beginG g ix x).2:=by
 have hm:=h.more (Nat.le_succ k);have hu:=uw_len10 hix;have hl:=layR_small (4*g.next+1) (syD g.d g.area) 0 (uw ix++x);rw[List.length_append]at hl;unfold beginG
 split
 · exact hm
 · split
   · exact hm
   · split
     · exact⟨hm.next,hm.fl,hm.many,hm.pl,hm.tl,hm.sec⟩
     · split
       · exact⟨hm.next,hm.fl,hm.many,hm.pl,hm.tl,hm.sec⟩
       · split
         · exact⟨hm.next,hm.fl,hm.many,hm.pl,hm.tl,hm.sec⟩
         · refine⟨Nat.succ_le_succ h.next,hm.fl,?_,fun y hy=>?_,getD_small hl.2 (by simp),Nat.le_trans hl.1 (by omega)⟩
           · have h1:=keepQ_len ix g.l
             have h2:=h.many;simp only[List.length_append,List.length_singleton];omega
           · show y.1<g.next+1
             rcases List.mem_append.1 hy with h1|h1
             · have:=h.pl y (List.mem_filter.1 h1).1;omega
             · rw[List.mem_singleton.1 h1];exact Nat.lt_succ_self _
theorem extG_small{k:Nat}{g:LG}(h:GSm k g)(x:List Nat)(hx:x.length≤600)(hk:k≤1073741824):GSm (k+1) (extG g x).2:=by
 have hm:=h.more (Nat.le_succ k);unfold extG
 split
 · exact beginG_small h _ x (by have:=h.fl;omega) hx
 · rename_i hw
   split
   · exact hm
   · have hl:=layR_small g.area g.d g.sector (g.tl++x)
     rw[List.length_append]at hl;have ht:=h.tl;have hs:g.sector<16:=by
      by_cases h16:g.sector<16
      · exact h16
      · exact absurd (decide_eq_true (.inr (by omega))) hw
     exact⟨hm.next,hm.fl,hm.many,hm.pl,getD_small hl.2 ht,Nat.le_trans hl.1 (by omega)⟩
theorem keepG_small{k:Nat}{r:Int×LG}(h:GSm k r.2):GSm k (keepG r).2:=by
 unfold keepG
 split
 · exact h
 · exact⟨h.next,h.fl,h.many,h.pl,h.tl,h.sec⟩
theorem appG_small{k:Nat}{g:LG}(h:GSm k g)(x:List Nat)(hk:k≤1073741824):GSm (k+1) (appG g x).2:=by
 have hm:=h.more (Nat.le_succ k);unfold appG
 split
 · exact hm
 · split
   · exact hm
   · rename_i h5
     have hu:=uw_len10 (n:=x.length) (by omega);have he:=keepG_small (extG_small h (uw x.length++x) (by rw[List.length_append];omega) hk)
     split
     · exact hm
     · split
       · exact he
       · refine⟨he.next,?_,he.many,he.pl,he.tl,he.sec⟩
         (have hL:(keepG (extG g (uw x.length++x))).2.L=g.L:=by rw[keepG_L,extG_L]);have hF:(keepG (extG g (uw x.length++x))).2.first=g.first:=by
          rw[keepG_first];unfold extG
          split
          · exact beginG_first _ _ _
          · split<;>rfl
         show(keepG (extG g (uw x.length++x))).2.first+((keepG (extG g (uw x.length++x))).2.L++[x]).length≤k+1;rw[hF,hL,List.length_append,List.length_singleton];have:=h.fl;omega
theorem sydG_small{k:Nat}{g:LG}(h:GSm k g):GSm k (sydG g).2:=by
 rw[sydG_g];exact⟨h.next,h.fl,h.many,h.pl,h.tl,h.sec⟩
theorem syncG_small{k:Nat}{g:LG}(h:GSm k g)(hk:k≤1073741824):GSm (k+1) (syncG g).2:=by
 have hm:=h.more (Nat.le_succ k);unfold syncG
 split
 · exact hm
 · split
   · have hb:=keepG_small (beginG_small h g.first [] (by have:=h.fl;omega) (by simp))
     split
     · exact hb
     · exact sydG_small hb
   · exact sydG_small hm
theorem truncG_small{k:Nat}{g:LG}(h:GSm k g)(i:Nat)(hi:i<18446744073709551616):GSm (k+1) (truncG g i).2:=by
 have hm:=h.more (Nat.le_succ k);unfold truncG
 split
 · exact hm
 · split
   · exact hm
   · split
     · exact hm
     · have hb:=keepG_small (beginG_small h i [] hi (by simp))
       split
       · exact hb
       · refine⟨hb.next,?_,hb.many,hb.pl,hb.tl,hb.sec⟩
         have:=hb.fl;show(keepG (beginG g i [])).2.first+((keepG (beginG g i [])).2.L.take (i-g.first)).length≤k+1;rw[List.length_take];omega
theorem compG_small{k:Nat}{g:LG}(h:GSm k g)(i:Nat):GSm (k+1) (compG g i).2:=by
 have hm:=h.more (Nat.le_succ k);unfold compG
 split
 · exact hm
 · split
   · exact hm
   · split
     · exact hm
     · split
       · exact⟨hm.next,hm.fl,hm.many,hm.pl,hm.tl,hm.sec⟩
       · refine⟨hm.next,?_,?_,fun y hy=>h.pl y (List.mem_of_mem_drop hy),hm.tl,hm.sec⟩
         · have:=h.fl
           show i+(g.L.drop (i-g.first)).length≤k+1;rw[List.length_drop];omega
         · have:=h.many
           show(g.l.drop _).length≤k+1;rw[List.length_drop];omega
def EDI(e:Int)(d:DS):Prop:=d.dead=true→e=30
theorem EDI.of{e:Int}{d:DS}(h:d.dead=false):EDI e d:=fun h1=>by rw[h]at h1;cases h1
theorem EDI.alive{d:DS}(h:EDI 0 d):d.dead=false:=by
 cases hd:d.dead with
 |false=>rfl
 |true=>exact absurd (h hd) (by decide)
theorem EDI.alive2{e:Int}{d:DS}(h:EDI e d)(he:¬e=30):d.dead=false:=by
 cases hd:d.dead with
 |false=>rfl
 |true=>exact absurd (h hd) he
theorem edi_step{d:DS}(h:d.dead=false):EDI (stepE d) (stepD d):=by
 intro h1;unfold stepD at h1;unfold stepE;rw[if_neg (by rw[h];decide)]at h1 ⊢;by_cases ha:(!d.armed)=true
 · rw[if_pos ha]at h1
   exact absurd h1 (by show ¬d.dead=true;rw[h];decide)
 · rw[if_neg ha]at h1
   by_cases hz:d.ahead=0
   · rw[if_pos (by simp at ha;simp[ha,hz])]
   · rw[if_neg hz]at h1
     exact absurd h1 (by show ¬d.dead=true;rw[h];decide)
theorem edi_secs{e:Int}{d:DS}(h:EDI e d)(S:List Sec):EDI e { d with secs:=S }:=h
theorem edi_sy{d:DS}(h:d.dead=false)(a:Int):EDI (stepE d) (syD d a):=by
 unfold syD
 split
 · exact edi_secs (edi_step h) _
 · exact edi_step h
theorem edi_fr{d:DS}(h:d.dead=false)(a:Int):EDI (stepE d) (frD d a):=by
 unfold frD
 split
 · exact edi_secs (edi_step h) _
 · exact edi_step h
theorem edi_wr{d:DS}(h:d.dead=false)(a n:Int)(xs:List Nat):EDI (wrE d a n xs) (wrD d a n xs):=by
 have hn:¬d.dead=true:=by rw[h];decide
 by_cases hf:formBad n xs
 · rw[wrE,wrD,if_neg hn,if_neg hn,if_pos hf,if_pos hf]
   exact EDI.of h
 · by_cases hb:fullBad d a n
   · rw[wrE,wrD,if_neg hn,if_neg hn,if_neg hf,if_neg hf,if_pos hb,if_pos hb]
     exact EDI.of h
   · rw[wrE,wrD,if_neg hn,if_neg hn,if_neg hf,if_neg hf,if_neg hb,if_neg hb]
     exact edi_secs (edi_step h) _
theorem edi_lay(a:Nat):∀(f:Nat) (d:DS) (s:Nat) (left:List Nat),d.dead=false→EDI (layF a f d s left).e (layF a f d s left).d
 |0,_,_,_,h=>EDI.of h
 |f+1,d,s,left,h=>by
  by_cases h63:63≤left.length
  · by_cases he:wrE d a s (63::left.take 63)=0
    · rw[layF_go h63 he]
      have h1:=edi_wr h a s (63::left.take 63);rw[he]at h1;exact edi_lay a f _ _ _ h1.alive
    · rw[layF_bad h63 he]
      exact edi_wr h a s _
  · by_cases h0:left=[]
    · subst h0
      rw[layF_nil];exact EDI.of h
    · rw[layF_end h63 h0]
      exact edi_wr h a s _
theorem edi_frs:∀(l:List Pl) (d:DS),d.dead=false→EDI (frsR d l).1 (frsR d l).2
 |[],_,h=>EDI.of h
 |x::r,d,h=>by
  rw[frsR];have h1:=edi_fr h ((4*x.1+1:Nat):Int)
  split
  · rename_i he
    have he':stepE d=0:=he;rw[he']at h1;exact edi_frs r _ h1.alive
  · exact h1
theorem edi_ff(d:DS)(a:Int)(ix:Nat)(l:List Pl)(h:d.dead=false):EDI (ffR d a ix l).1 (ffR d a ix l).2:=by
 unfold ffR
 split
 · split
   · rename_i he
     have h1:=edi_sy h a;rw[he]at h1;exact edi_frs _ _ h1.alive
   · exact edi_sy h a
 · exact EDI.of h
theorem edi_ahead(d:DS)(a:Int)(l:List Pl)(i:Nat)(h:d.dead=false):EDI (aheadR d a l i).1 (aheadR d a l i).2:=by
 cases ht:downTo l i (l.length-1)with
 |zero=>rw[aheadR_none ht];exact EDI.of h
 |succ t=>
  by_cases he:stepE d=0
  · rw[aheadR_some ht he]
    have h1:=edi_sy h a;rw[he]at h1;exact edi_frs _ _ h1.alive
  · rw[aheadR_dead ht he]
    exact edi_sy h a
theorem edi_begin(g:LG)(ix:Nat)(x:List Nat)(h:g.d.dead=false):EDI (beginG g ix x).1 (beginG g ix x).2.d:=by
 unfold beginG;have h1:=edi_sy h (g.area:Int)
 split
 · exact EDI.of h
 · split
   · exact EDI.of h
   · split
     · exact h1
     · rename_i hs
       (have hs':stepE g.d=0:=by simpa using hs);rw[hs']at h1;have h2:EDI (layR (syD g.d g.area) (4*g.next+1) 0 (uw ix++x)).e (layR (syD g.d g.area) (4*g.next+1) 0 (uw ix++x)).d:=edi_lay _ _ _ _ _ h1.alive
       split
       · exact h2
       · rename_i hl
         (have hl':(layR (syD g.d g.area) (4*g.next+1) 0 (uw ix++x)).e=0:=by simpa using hl);rw[hl']at h2;have h3:=edi_ff (layR (syD g.d g.area) (4*g.next+1) 0 (uw ix++x)).d ((4*g.next+1:Nat):Int) ix g.l h2.alive
         split
         · exact h3
         · rename_i hf
           (have hf':(ffR (layR (syD g.d g.area) (4*g.next+1) 0 (uw ix++x)).d ((4*g.next+1:Nat):Int) ix g.l).1=0:=by simpa using hf);rw[hf']at h3;exact h3
theorem edi_ext(g:LG)(x:List Nat)(h:g.d.dead=false):EDI (extG g x).1 (extG g x).2.d:=by
 unfold extG
 split
 · exact edi_begin _ _ _ h
 · split
   · exact EDI.of h
   · exact edi_lay _ _ _ _ _ h
def DI(g:LG):Prop:=g.d.dead=true→g.fault=30
theorem keepG_d(r:Int×LG):(keepG r).2.d=r.2.d:=by unfold keepG;split<;>rfl
theorem di_keep{r:Int×LG}(h:EDI r.1 r.2.d):DI (keepG r).2:=by
 intro hd;rw[keepG_d]at hd;have he:=h hd;unfold keepG;rw[if_neg (by rw[he];decide)];exact he
theorem di_app(g:LG)(x:List Nat)(h:g.d.dead=false):DI (appG g x).2:=by
 have h0:DI g:=fun hd=>by rw[h]at hd;cases hd
 unfold appG
 split
 · exact h0
 · split
   · exact h0
   · split
     · exact h0
     · have h1:=di_keep (edi_ext g (uw x.length++x) h)
       split
       · exact h1
       · exact h1
theorem di_syd(g:LG)(h:g.d.dead=false):DI (sydG g).2:=di_keep (edi_sy h (g.area:Int))
theorem di_sync(g:LG)(h:g.d.dead=false):DI (syncG g).2:=by
 unfold syncG
 split
 · exact fun hd=>by rw[h]at hd;cases hd
 · split
   · have h1:=edi_begin g g.first [] h
     split
     · exact di_keep h1
     · rename_i he
       (have he':(beginG g g.first []).1=0:=by simpa using he);rw[he']at h1;exact di_syd _ (by rw[keepG_d];exact h1.alive)
   · exact di_syd _ h
theorem di_trunc(g:LG)(i:Nat)(h:g.d.dead=false):DI (truncG g i).2:=by
 have h0:DI g:=fun hd=>by rw[h]at hd;cases hd
 unfold truncG
 split
 · exact h0
 · split
   · exact h0
   · split
     · exact h0
     · have h1:=di_keep (edi_begin g i [] h)
       split
       · exact h1
       · exact h1
theorem di_comp(g:LG)(i:Nat)(h:g.d.dead=false):DI (compG g i).2:=by
 have h0:DI g:=fun hd=>by rw[h]at hd;cases hd
 unfold compG
 split
 · exact h0
 · split
   · exact h0
   · split
     · exact h0
     · have h1:=edi_ahead g.d (g.area:Int) g.l i h
       split
       · exact h1
       · rename_i he
         (have he':(aheadR g.d (g.area:Int) g.l i).1=0:=by simpa using he);rw[he']at h1;intro hd;have:=h1 hd;exact absurd this (by decide)
end Go.Proofs.YthecngkdmnadoaaGreat
