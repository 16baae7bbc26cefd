import Derived.Test.YtobjpljdgieklaaGreatDoorJ23
import Derived.Test.YtobjpljdgieklaaGreatDoorFBuild2
set_option maxRecDepth 100000
set_option maxHeartbeats 8000000
namespace Go.Proofs.YtobjpljdgieklaaGreatDoor
section
open Go.RowKit Nums Fm Pk
structure GRow(E k:Nat)(w:World)(v:Value)(xss:List (List Value)):Prop where
 ex:∃ad cap,v = .slice ad xss.length cap∧(0<xss.length→∃g off,ad=some ⟨g,off,none⟩∧g<E∧∀(i j:Nat) (x:List Value) (u:Value),xss[i]?=some x→x[j]?=some u→w.cell? ⟨g,off+i*k+j,none⟩=some u)
theorem GRow.below{E k:Nat}{w w':World}{v:Value}{xss:List (List Value)}(h:GRow E k w v xss)(hb:Below E w w'):GRow E k w' v xss:=by
 obtain⟨ad,cap,rfl,hc⟩:=h.ex;refine⟨ad,cap,rfl,fun h0=>?_⟩;obtain⟨g,off,rfl,hg,hx⟩:=hc h0;exact⟨g,off,rfl,hg,fun i j x u hi hj=>(hb.cell (p:=⟨g,off+i*k+j,none⟩) hg).trans (hx i j x u hi hj)⟩
theorem GRow.mono{E E' k:Nat}{w:World}{v:Value}{xss:List (List Value)}(h:GRow E k w v xss)(hE:E≤E'):GRow E' k w v xss:=by
 obtain⟨ad,cap,rfl,hc⟩:=h.ex;refine⟨ad,cap,rfl,fun h0=>?_⟩;obtain⟨g,off,rfl,hg,hx⟩:=hc h0;exact⟨g,off,rfl,Nat.lt_of_lt_of_le hg hE,hx⟩
theorem GRow.shape{E k:Nat}{w:World}{v:Value}{xss:List (List Value)}(h:GRow E k w v xss):∃ad cap,v = .slice ad xss.length cap:=by
 obtain⟨ad,cap,rfl,_⟩:=h.ex;exact⟨ad,cap,rfl⟩
theorem GOwn.reads{T:TypeId}{k B:Nat}{w:World}{v:Value}{xss:List (List Value)}(h:GOwn T k B w v xss):GRow w.heap.size k w v xss:=by
 obtain⟨ad,cap,hv,_⟩:=h.shape;refine⟨ad,cap,hv,fun h0=>?_⟩;obtain⟨g,c2,hv2,hg,_,_,hc⟩:=h.cell h0;rw[hv]at hv2;simp only[Value.slice.injEq]at hv2;exact⟨g,0,hv2.1,hg,fun i j x u hi hj=>by rw[Nat.zero_add];exact hc i j x u hi hj⟩
def zBk(a:RArc):List Value:=[.int .i32 a.label,.int .i64 a.out,.int .i64 a.to]
def OkRA(a:RArc):Prop:=zIk a.label∧zB3 a.out∧zB3 a.to
structure ArcsAt(E:Nat)(w:World)(va:Value)(l:List RArc):Prop where
 row:GRow E 3 w va (l.map zBk)
 ok:∀a∈l,OkRA a
 len:l.length≤9223372036854775807
theorem ArcsAt.below{E:Nat}{w w':World}{va:Value}{l:List RArc}(h:ArcsAt E w va l)(hb:Below E w w'):ArcsAt E w' va l:=⟨h.row.below hb,h.ok,h.len⟩
theorem ArcsAt.shape{E:Nat}{w:World}{va:Value}{l:List RArc}(h:ArcsAt E w va l):∃ad cap,va = .slice ad l.length cap:=by
 obtain⟨ad,cap,h1⟩:=h.row.shape;exact⟨ad,cap,by rw[h1,List.length_map]⟩
theorem ArcsAt.at{E:Nat}{w:World}{ad:Option Addr}{n cap:Nat}{l:List RArc}(h:ArcsAt E w (.slice ad n cap) l){k:Nat}{a:RArc}(ha:l[k]?=some a):∃g off,ad=some ⟨g,off,none⟩∧g<E∧w.cell? ⟨g,off+k*3,none⟩=some (.int .i32 a.label)∧w.cell? ⟨g,off+k*3+1,none⟩=some (.int .i64 a.out)∧w.cell? ⟨g,off+k*3+2,none⟩=some (.int .i64 a.to):=by
 obtain⟨ad',cap',hv,hc⟩:=h.row.ex;simp only[Value.slice.injEq]at hv;have hk:=(List.getElem?_eq_some_iff.1 ha).1;obtain⟨g,off,rfl,hg,hx⟩:=hc (by rw[List.length_map];omega);have e:(l.map zBk)[k]?=some (zBk a):=by rw[List.getElem?_map,ha];rfl
 exact⟨g,off,hv.1,hg,hx k 0 _ _ e rfl,hx k 1 _ _ e rfl,hx k 2 _ _ e rfl⟩
structure StsAt(E:Nat)(w:World)(vs:Value)(m:List RSt):Prop where
 ex:∃xss,GRow E 3 w vs xss∧xss.length=m.length∧∀(i:Nat) (s:RSt),m[i]?=some s→∃va,xss[i]?=some [.bool s.final,.int .i64 s.out,va]∧ArcsAt E w va s.arcs
 ok:∀s∈m,zB3 s.out
 len:m.length≤9223372036854775807
theorem StsAt.below{E:Nat}{w w':World}{vs:Value}{m:List RSt}(h:StsAt E w vs m)(hb:Below E w w'):StsAt E w' vs m:=by
 obtain⟨xss,h1,h2,h3⟩:=h.ex;refine⟨⟨xss,h1.below hb,h2,fun i s hi=>?_⟩,h.ok,h.len⟩;obtain⟨va,e1,e2⟩:=h3 i s hi;exact⟨va,e1,e2.below hb⟩
theorem StsAt.shape{E:Nat}{w:World}{vs:Value}{m:List RSt}(h:StsAt E w vs m):∃ad cap,vs = .slice ad m.length cap:=by
 obtain⟨xss,h1,h2,_⟩:=h.ex;obtain⟨ad,cap,e⟩:=h1.shape;exact⟨ad,cap,by rw[e,h2]⟩
theorem StsAt.at{E:Nat}{w:World}{ad:Option Addr}{n cap:Nat}{m:List RSt}(h:StsAt E w (.slice ad n cap) m){k:Nat}{s:RSt}(hs:m[k]?=some s):∃g off va,ad=some ⟨g,off,none⟩∧g<E∧w.cell? ⟨g,off+k*3,none⟩=some (.bool s.final)∧w.cell? ⟨g,off+k*3+1,none⟩=some (.int .i64 s.out)∧w.cell? ⟨g,off+k*3+2,none⟩=some va∧ArcsAt E w va s.arcs:=by
 obtain⟨xss,h1,h2,h3⟩:=h.ex;obtain⟨ad',cap',hv,hc⟩:=h1.ex;simp only[Value.slice.injEq]at hv;have hk:=(List.getElem?_eq_some_iff.1 hs).1;obtain⟨g,off,rfl,hg,hx⟩:=hc (by omega);obtain⟨va,e1,e2⟩:=h3 k s hs;exact⟨g,off,va,hv.1,hg,hx k 0 _ _ e1 rfl,hx k 1 _ _ e1 rfl,hx k 2 _ _ e1 rfl,e2⟩
theorem zUy{l:List RArc}{k:Nat}{a:RArc}(h:l[k]?=some a)(m:Int):minF m (l.take (k+1))=min (minF m (l.take k)) a.out:=by
 have:∀(x:List RArc) (m:Int),minF m (x++[a])=min (minF m x) a.out:=fun x=>by
  induction x with
  |nil=>intro m;rfl
  |cons y r ih=>intro m;exact ih _
 rw[List.take_add_one,h];exact this _ _
theorem zR8(E:Nat)(w:World)(s:RSt)(va:Value)(h:ArcsAt E w va s.arcs)(hE:E≤w.heap.size):
 Calls Tryz.prog 141 #[.agg #[.bool s.final,.int .i64 s.out,va]] w fun e w'=>e = .returned (.int .i64 (zGt s))∧Below w.heap.size w w':=by
 obtain⟨ad,cap,rfl⟩:=h.shape;obtain⟨n,hn⟩:∃n,s.arcs.length=n:=⟨_,rfl⟩;have HN:Hid (s.arcs.length=n):=hn;have HR:Hid (ArcsAt E w (.slice ad s.arcs.length cap) s.arcs):=h;have hl:=h.len;rw[hn]at HR hl ⊢;clear h hn;obtain⟨M,hM⟩:∃M:Int,M=if s.final then s.out else 9223372036854775807:=⟨_,rfl⟩;have HM:Hid (minF M s.arcs=zGt s):=by show _=_;rw[hM];rfl
 cases hf:s.final
 rotate_left
 focus
  rw[hf,if_pos rfl]at hM;subst hM;generalize s.out=M at *;clear hf;go_enter Tryz.func141,Tryz.ntmps141;go_wp2
 rotate_left
 focus
  rw[hf,if_neg (by decide)]at hM;subst hM;generalize s.out=so at *;clear hf;go_enter Tryz.func141,Tryz.ntmps141;go_wp2;obtain⟨M,hMM⟩:∃M:Int,M=9223372036854775807:=⟨_,rfl⟩;rw[←hMM]at HM ⊢;clear hMM
 all_goals
  go_loopg [3,5,13] n (fun gm s3 _ s13 wr=>∃(k:Nat),s13 = .int .i64 k∧k≤n∧n-k≤gm∧s3 = .int .i64 (minF M (s.arcs.take k))∧Hid (Below w.heap.size w wr))
  case atStart=>exact⟨0,rfl,Nat.zero_le _,by omega,by simp[minF],(Below.refl _ _).alloc (Nat.le_refl _) _⟩
  case round=>
   obtain⟨k,rfl,hk,hgm,rfl,HB⟩:=hrel;by_cases hlt:k<n
   · have hltz:(k:Int)<(n:Int):=by omega
     obtain⟨x,hx⟩:∃x,s.arcs[k]?=some x:=⟨s.arcs[k]'(by have:=HN.out;omega),List.getElem?_eq_getElem _⟩;obtain⟨g,off,rfl,hg,c0,c1,c2⟩:=(HR.out.below (HB.out.mono hE)).at hx;have HS:Hid (minF M (s.arcs.take (k+1))=min (minF M (s.arcs.take k)) x.out):=zUy hx _;(have HB2:Hid (∀o,Below w.heap.size w (wr.alloc o)):=fun o=>HB.out.alloc HB.out.size o);clear hx;generalize minF M (s.arcs.take k)=m at *;go_wp2
     all_goals
      go_roundg (n-(k+1));(case measure=>omega);case rel=>exact⟨k+1,by go_num,by omega,Nat.le_refl _,by(first|(rw[HS.out];done)|(rw[HS.out];congr 1;omega)),HB2.out _⟩
   · have hltz:¬(k:Int)<(n:Int):=by omega
     (have HE:Hid (minF M (s.arcs.take k)=zGt s):=by show _=_;rw[List.take_of_length_le (by have:=HN.out;omega)];exact HM.out);go_wp2;go_ret;exact⟨by rw[HE.out];rfl,HB.out⟩
theorem word_one(r:Int):(allR [r]&&zAq (zAv [r]).data.toList)=zC7 r:=by
 unfold allR zC7;simp only[List.all_cons,List.all_nil,Bool.and_true];cases hr:isR r with
 |false=>rfl
 |true=>
  have h1:allR [r]=true:=by simp[allR,hr]
  have h2:(zAv [r]).data.toList=[r].flatMap wr:=by
   unfold zAv;rw[if_pos h1];show((([r].flatMap wrI).map (fun n=>UInt8.ofNat n.toNat)).toArray).toList=_;rw[List.toList_toArray];exact zSm [r]
  rw[h2,Bool.true_and,Bool.true_and];have h3:=rs_text (xs:=[r]) (by simp[hr]);unfold zAq;rw[h3];simp
theorem zHv(w:World)(r:Int)(hT:Tabs w):
 Calls Tryz.prog 167 #[.int .i32 r] w fun e w'=>e = .returned (.bool (zC7 r))∧Below w.heap.size w w':=by
 have hb0:∀o,Below w.heap.size w (w.alloc o):=fun o=>(Below.refl _ w).alloc (Nat.le_refl _) o
 have HT:Hid (∀o,Tabs (w.alloc o)):=fun o=>hT.below (hb0 o)
 have HB:Hid (∀o,Below w.heap.size w (w.alloc o)):=hb0;have HW:Hid ((allR [r]&&zAq (zAv [r]).data.toList)=zC7 r):=word_one r;have HSZ:Hid ((zAv [r]).size≤9223372036854775807):=by
  show _≤_;have h1:=zK3 [r];unfold zAv
  split
  · show(List.toArray _).size≤_
    simp only[List.size_toArray,List.length_map];simp only[List.length_cons,List.length_nil]at h1;omega
  · decide
 have HROW:Hid (∀T,Row (w.alloc (.cells #[.int .i32 r] T)) (.slice (some ⟨w.heap.size,0,none⟩) 1 1) [r]):=fun T=>by
  refine⟨_,1,rfl,fun _=>⟨_,0,rfl,fun i hi=>?_⟩⟩;have:i=0:=by simpa using hi
  subst this;simp
 have HTX:Hid (∀T,Calls Tryz.prog 153 #[.slice (some ⟨w.heap.size,0,none⟩) 1 1] (w.alloc (.cells #[.int .i32 r] T)) fun e w'=>e = .returned (.tuple #[.string (zAv [r]),.bool (allR [r])])∧Below w.heap.size w w'):=fun T=>by
  refine(zLg _ [r] _ (HT.out _) (HROW.out T) (by simp)).mono ?_;rintro e w1 ⟨rfl,hb1⟩;exact⟨rfl,(HB.out _).trans (hb1.mono (HB.out (.cells #[.int .i32 r] T)).size)⟩
 have HWD:Hid (∀w1,Below w.heap.size w w1→Calls Tryz.prog 56 #[.string (zAv [r])] w1 fun e w'=>e = .returned (.bool (zAq (zAv [r]).data.toList))∧Below w.heap.size w w'):=fun w1 hb1=>by
  refine(zCj _ _ (hT.below hb1) HSZ.out).mono ?_;rintro e w2 ⟨rfl,q,rfl⟩;exact⟨rfl,belowN hb1 q⟩
 clear hT hb0 HSZ HROW HT HB;generalize allR [r]=A at *;generalize zAq (zAv [r]).data.toList=B at *;generalize zAv [r]=S at *;go_enter Tryz.func167,Tryz.ntmps167;cases A with
 |true=>
  go_wp2_with (first
   |(go_at_call 153;refine(HTX.out _).mono ?_;rintro e w1 ⟨rfl,hb1⟩;have HB1:Hid (Below w.heap.size w w1):=hb1;clear hb1)
   |(go_at_call 56;refine(HWD.out _ HB1.out).mono ?_;rintro e w2 ⟨rfl,hb2⟩))
  go_ret;exact⟨by rw[←HW.out];rfl,hb2⟩
 |false=>
  go_wp2_with (first
   |(go_at_call 153;refine(HTX.out _).mono ?_;rintro e w1 ⟨rfl,hb1⟩;have HB1:Hid (Below w.heap.size w w1):=hb1;clear hb1))
  go_ret;exact⟨by rw[←HW.out];rfl,HB1.out⟩
end
