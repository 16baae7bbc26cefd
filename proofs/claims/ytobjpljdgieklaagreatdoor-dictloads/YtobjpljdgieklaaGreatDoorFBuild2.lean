import Derived.Test.YtobjpljdgieklaaGreatDoorFBuild
import Derived.Handy
import Derived.Carry
namespace Go.Proofs.YtobjpljdgieklaaGreatDoor
open Go.RowKit Nums Fm
set_option maxRecDepth 100000
theorem zA2{w:World}{b:Nat}{a0 a1:Value}{T:TypeId}{q:Nat×Nat}(h:w.heap[b]?=some (.cells #[a0,a1] T q))(x y:Value):((w.setCell ⟨b,0,none⟩ x).setCell ⟨b,1,none⟩ y).cell? ⟨b,0,none⟩=some x∧((w.setCell ⟨b,0,none⟩ x).setCell ⟨b,1,none⟩ y).cell? ⟨b,1,none⟩=some y:=by
 have h1:=zAu (o:=0) h x;have h2:=zAu (o:=1) h1 y;refine⟨?_,?_⟩
 · simp only[World.cell?,h2];rfl
 · simp only[World.cell?,h2];rfl
theorem zDt{tmps:Array Value}{w:World}{rb:Nat}{a b:Value}(h2:tmps.getD 2 undef = .pointer (some ⟨rb,0,none⟩))(c0:w.cell? ⟨rb,0,none⟩=some a)(c1:w.cell? ⟨rb,1,none⟩=some b):(results Tryz.f40 tmps).run Tryz.prog w = .ok (.tuple #[.agg #[a,b],tmps.getD 3 undef]) w:=by
 have h2':tmps[2]?.getD undef = .pointer (some ⟨rb,0,none⟩):=by simpa using h2
 simp[results,Tryz.results40,go_sem,h2',c0,c1]
def SB(g:Nat)(vs:Value)(w:World):Prop:=w.cell? ⟨g,0,none⟩=some vs
theorem SB.facts{g:Nat}{vs:Value}{w:World}(h:SB g vs w):w.cell? ⟨g,0,none⟩=some vs:=h
theorem BAt.start{E:Nat}{w:World}{g g1 g2:Nat}(hb:w.heap[g]?=some (.cells #[.slice none 0 0,.map (some g1),.map (some g2)] 113 (0,0)))(h1:w.heap[g1]?=some (.map #[] 0))(h2:w.heap[g2]?=some (.map #[] 0))(hne:g1≠g2)(hlo:E≤g∧E≤g1∧E≤g2):BAt (fun _=>False) E w g g1 g2 (.slice none 0 0) [] [] [] [[]]:=
 ⟨hb,⟨[],GOwn.nil _ _ _ _,rfl,fun i s hi=>by simp at hi⟩,⟨#[],0,h1,rfl,by simp⟩,⟨#[],0,h2,rfl,by simp⟩,⟨rfl,rfl,fun i x n hi=>by simp at hi,by simp⟩,⟨rfl,fun i x n hi=>by simp at hi,by simp⟩,hne,hlo⟩
theorem BAt.strow{A:Nat→Prop}{E g g1 g2:Nat}{w:World}{vs:Value}{b:List St}{m1:List (SK×Nat)}{m2:List (LK×Nat)}{D:List (List Arc)}(h:BAt A E w g g1 g2 vs b m1 m2 D):StRow E w vs b:=by
 obtain⟨xss,h1,h2,h3⟩:=h.row;refine⟨xss,h1,h2,fun i s hi=>?_⟩;obtain⟨va,h4,h5,_⟩:=h3 i s hi;exact⟨va,h4,h5⟩
set_option maxHeartbeats 2000000 in
theorem zNw(w:World)(v:Value)(l:List Pr)(h:PRow w v l)(hl:l.length≤9223372036854775807)(hsm:Sm l)(ht:Tabs w):
 Calls Tryz.prog 40 #[v] w fun e w'=>∃base vs b,e = .returned (.tuple #[.agg #[.int .i64 base,vs],.int .i64 (zAl l)])∧BuildSays w w' l base vs b:=by
 obtain⟨ad,cap,rfl⟩:=h.form;have HR:Hid (PRow w (.slice ad l.length cap) l):=h;obtain⟨n,hn⟩:∃n,l.length=n:=⟨_,rfl⟩;have HN:Hid (l.length=n):=hn;have HS:Hid (Sm l):=hsm;have HT:Hid (Tabs w):=ht;have HA:Hid (∀o,Below w.heap.size w (w.alloc o)):=fun o=>(Below.refl _ w).alloc (Nat.le_refl _) o
 rw[hn]at HR hl;clear h hsm ht;rw[hn];obtain⟨C,hC⟩:∃C,zAl l=C:=⟨_,rfl⟩;have HC:Hid (zAl l=C):=hC;rw[hC];have HZ:Hid (C≠0∨n=0→∀w',Below w.heap.size w w'→BuildSays w w' l 0 (.slice none 0 0) []):=fun h w' hb=>by
  refine⟨hb,StRow.nil _ _,?_⟩;rw[zAg,if_neg];rintro⟨h1,h2⟩;rcases h with h|h
  · exact h (HC.out.symm.trans h1)
  · exact h2 (List.eq_nil_of_length_eq_zero (HN.out.trans h))
 by_cases hbig:4096<n
 · have hbz:(4096:Int)<(n:Int):=by omega
   (have hC70:C=70:=by rw[←hC,zAl,if_pos (by omega)]);subst hC70;clear hC hn;go_enter Tryz.func40,Tryz.ntmps40;go_wp2;go_returns;exact⟨_,_,_,rfl,HZ.out (.inl (by decide)) _ (HA.out _)⟩
 have hbz:¬(4096:Int)<(n:Int):=by omega
 have hCf:zA7 none l=C:=by rw[←hC,zAl,if_neg (by omega)]
 obtain⟨rb,hrb⟩:∃rb,rb=w.heap.size:=⟨_,rfl⟩;obtain⟨w0,hw0⟩:∃w0,w0=w.alloc (.cells #[.int .i64 0,.slice none 0 0] 39):=⟨_,rfl⟩;have hb0:Below w.heap.size w w0:=by rw[hw0];exact HA.out _
 have hr0:w0.heap[rb]?=some (.cells #[.int .i64 0,.slice none 0 0] 39):=by rw[hw0,hrb];exact zAb _ _
 have HB0:Hid (Below w.heap.size w w0):=hb0;have HR0:Hid (w0.heap[rb]?=some (.cells #[.int .i64 0,.slice none 0 0] 39)∧rb<w0.heap.size∧rb=w.heap.size):=⟨hr0,(Array.getElem?_eq_some_iff.1 hr0).1,hrb⟩;have HF:Hid (Calls Tryz.prog 62 #[.slice ad n cap] w0 fun e w'=>e = .returned (.int .i64 C)∧Below w0.heap.size w0 w'):=by
  have:=zIu w0 _ l (HR.out.below hb0) (by omega) HS.out (HT.out.below hb0);rw[hCf]at this;exact this
 clear hb0 hr0;by_cases hC0:¬C=0
 · have hCb:(C==0)=false:=beq_eq_false_iff_ne.2 hC0
   have HCN:Hid (C≠0):=hC0;clear hC hn hCf hC0;go_enter Tryz.func40,Tryz.ntmps40;(go_upto_region 1 with fail);rw[←hw0,←hrb];clear hw0 hrb;(go_upto_region 4 with(go_at_call 62;refine HF.out.mono ?_;rintro e w1 ⟨rfl,hb1⟩));have hr1:=(hb1.block rb HR0.out.2.1).trans HR0.out.1;(have hc0:w1.cell? ⟨rb,0,none⟩=some (.int .i64 0):=by simp[World.cell?,hr1]);(have hc1:w1.cell? ⟨rb,1,none⟩=some (.slice none 0 0):=by simp[World.cell?,hr1]);(have hz:∀o,w1.frozen? ⟨rb,o,none⟩=false:=fun o=>by simp[World.frozen?,hr1]);(have HB1:Hid (∀x y,Below w.heap.size w ((w1.setCell ⟨rb,0,none⟩ x).setCell ⟨rb,1,none⟩ y)):=fun x y=>((HB0.out.trans (hb1.mono HB0.out.size)).setCell (by show w.heap.size≤rb;rw[HR0.out.2.2];exact Nat.le_refl _) _).setCell (by show w.heap.size≤rb;rw[HR0.out.2.2];exact Nat.le_refl _) _);have HP:Hid _:=zA2 hr1 (.int .i64 0) (.slice none 0 0);clear hb1 hr1;go_wp2;(try simp only[Exit.inBlock,Exit.then]);refine bodyPost_ret (zDt rfl HP.out.1 HP.out.2) rfl ?_;exact⟨_,_,_,rfl,HZ.out (.inl HCN.out) _ (HB1.out _ _)⟩
 have hC0':C=0:=by omega
 subst hC0';clear hC0 hC hCf;by_cases hn0:n=0
 · subst hn0
   clear hn;go_enter Tryz.func40,Tryz.ntmps40;(go_upto_region 1 with fail);rw[←hw0,←hrb];clear hw0 hrb;(go_upto_region 4 with(go_at_call 62;refine HF.out.mono ?_;rintro e w1 ⟨rfl,hb1⟩));have hr1:=(hb1.block rb HR0.out.2.1).trans HR0.out.1;(have hc0:w1.cell? ⟨rb,0,none⟩=some (.int .i64 0):=by simp[World.cell?,hr1]);(have hc1:w1.cell? ⟨rb,1,none⟩=some (.slice none 0 0):=by simp[World.cell?,hr1]);(have hz:∀o,w1.frozen? ⟨rb,o,none⟩=false:=fun o=>by simp[World.frozen?,hr1]);(have HB1:Hid (∀x y,Below w.heap.size w ((w1.setCell ⟨rb,0,none⟩ x).setCell ⟨rb,1,none⟩ y)):=fun x y=>((HB0.out.trans (hb1.mono HB0.out.size)).setCell (by show w.heap.size≤rb;rw[HR0.out.2.2];exact Nat.le_refl _) _).setCell (by show w.heap.size≤rb;rw[HR0.out.2.2];exact Nat.le_refl _) _);have HP:Hid _:=zA2 hr1 (.int .i64 0) (.slice none 0 0);clear hb1 hr1;go_wp2;(try simp only[Exit.inBlock,Exit.then]);refine bodyPost_ret (zDt rfl HP.out.1 HP.out.2) rfl ?_;exact⟨_,_,_,rfl,HZ.out (.inr (by trivial)) _ (HB1.out _ _)⟩
 have hn0z:¬(n:Int)=0:=by omega
 have hn0b:((n:Int)==0)=false:=beq_eq_false_iff_ne.2 hn0z;have HD:Hid (DictOk l):=zB2 HC.out;have hl0:l≠[]:=fun e=>by rw[e]at hn;simp at hn;omega
 have hents0:ents l≠[]:=fun e=>by have:=zBb l;rw[e,hn]at this;simp at this;omega
 have HOK:Hid (Ok 25 (cut 0 (ents l))):=by show Ok _ _;rw[zK8];exact zEk 25 (ents l) hents0 HD.out.rise (fun e he=>by have:=HD.out.en.ln e he;omega)
 have HBK:Hid (bulk (cut 0 (ents l))≤102400):=by
  show _≤_;rw[zK8];have h1:=zO9 HD.out.en.ln;rw[zBb,hn]at h1;omega
 have HM:Hid (zAg l=(least (ents l),(stF 25 [] (ents l)).1)):=by show _=_;rw[zAg,if_pos ⟨HC.out,hl0⟩]
 clear HZ hn hents0 hl0;go_enter Tryz.func40,Tryz.ntmps40;go_upto_region 1 with fail
 rw[←hw0,←hrb];clear hw0 hrb;go_upto_region 4 with(go_at_call 62;refine HF.out.mono ?_;rintro e w1 ⟨rfl,hb1⟩)
 have hb01:Below w.heap.size w w1:=HB0.out.trans (hb1.mono HB0.out.size);have HENT:=zOu w1 _ l (HR.out.below hb01) (by rw[HN.out];omega) HD.out.wd (HT.out.below hb01);have HENTH:Hid (Calls Tryz.prog 63 #[.slice ad n cap] w1 fun e w'=>∃v',e = .returned v'∧ERow w'.heap.size w' v' (ents l)∧Below w1.heap.size w1 w'):=HENT;have HB1:Hid (Below w0.heap.size w0 w1):=hb1;clear hb1 hb01 HENT;go_upto_region 9 with(go_at_call 63;refine HENTH.out.mono ?_;rintro e w2 ⟨vE,rfl,hE,hb2⟩)
 have HE2:Hid (ERow w2.heap.size w2 vE (ents l)):=hE;have HB2:Hid (Below w0.heap.size w0 w2):=HB1.out.trans (hb2.mono HB1.out.size);clear hE hb2;have hm1:(Instr.makeMap 110 none).run Tryz.prog w2 = .ok (.map (some w2.heap.size)) (w2.alloc (.map #[] 0)):=run_makeMap _ _;have hm2:(Instr.makeMap 111 none).run Tryz.prog (w2.alloc (.map #[] 0)) = .ok (.map (some (w2.heap.size+1))) ((w2.alloc (.map #[] 0)).alloc (.map #[] 0)):=by
  have:=run_makeMap (P:=Tryz.prog) 111 (w2.alloc (.map #[] 0));rw[show(w2.alloc (.map #[] 0)).heap.size=w2.heap.size+1 by simp]at this;exact this
 go_upto_region 10 with fail
 clear hm1 hm2;obtain⟨W,hW⟩:∃W,W=((w2.alloc (.map #[] 0)).alloc (.map #[] 0)).alloc (.cells #[.slice none 0 0,.map (some w2.heap.size),.map (some (w2.heap.size+1))] 113):=⟨_,rfl⟩;obtain⟨E,hE⟩:∃E,E=w2.heap.size:=⟨_,rfl⟩;rw[←hW,←hE];have hgm:W.heap[E+1+1]?=some (.cells #[.slice none 0 0,.map (some E),.map (some (E+1))] 113):=by
  have:((w2.alloc (.map #[] 0)).alloc (.map #[] 0)).heap.size=E+1+1:=by rw[hE];simp
  rw[hW,←this,hE];exact zAb _ _
 have hg1:W.heap[E]?=some (.map #[] 0):=by
  rw[hW,(MapKept.heap_alloc _ _).2 E (by rw[hE];simp;omega),(MapKept.heap_alloc _ _).2 E (by rw[hE];simp),hE];exact zAb _ _
 have hg2:W.heap[E+1]?=some (.map #[] 0):=by
  have:(w2.alloc (.map #[] 0)).heap.size=E+1:=by rw[hE];simp
  rw[hW,(MapKept.heap_alloc _ _).2 (E+1) (by rw[hE];simp),←this];exact zAb _ _
 have hbW:Below w2.heap.size w2 W:=by rw[hW];exact(((Below.refl _ w2).alloc (Nat.le_refl _) _).alloc (by simp) _).alloc (by simp;omega) _
 obtain⟨g,hg⟩:∃g,g=E+1+1:=⟨_,rfl⟩;rw[←hg]at hgm ⊢;have hBA:=BAt.start (E:=E) hgm hg1 hg2 (by omega) ⟨by omega,by omega,by omega⟩;have hEr:ERow E W vE (ents l):=by rw[hE];exact HE2.out.below hbW
 have HST:=zTt 25 (fun _=>False) E g E (E+1) (.slice none 0 0) [] [] [] [[]] W vE (ents l) 0 hBA hEr HOK.out HD.out.en (by rw[zBb];exact HD.out.len) (fun _ _=>Nat.zero_le _) (by omega) (by have:=HBK.out;simp only[List.length_nil];omega) (by have:=HBK.out;simp only[List.length_nil];omega) (fun _ h=>h.elim);rw[zK8]at HST;have HSTH:Hid (Calls Tryz.prog 64 #[.pointer (some ⟨g,0,none⟩),vE,.int .i64 0] W fun e w'=>∃n:Nat,e = .returned (.int .i64 n)∧StSays (fun _=>False) E g E (E+1) (.slice none 0 0) [] [] 25 (ents l) W w' n):=HST;have hrW:W.heap[rb]?=some (.cells #[.int .i64 0,.slice none 0 0] 39):=(hbW.block rb (Nat.lt_of_lt_of_le HR0.out.2.1 HB2.out.size)).trans ((HB2.out.block rb HR0.out.2.1).trans HR0.out.1);have HGE:Hid (g=E+1+1∧E=w2.heap.size∧W.heap.size=E+1+1+1∧rb<E):=⟨hg,hE,by rw[hW,hE];simp,by rw[hE];exact Nat.lt_of_lt_of_le HR0.out.2.1 HB2.out.size⟩;have HRW:Hid (W.heap[rb]?=some (.cells #[.int .i64 0,.slice none 0 0] 39)):=hrW;have HBW:Hid (Below w2.heap.size w2 W):=hbW;have HERW:Hid (ERow E W vE (ents l)):=hEr;have HFP:Hid (∀k,fpB g E (E+1) (.slice none 0 0) k→E≤k):=hBA.fp_lo;clear hW hE hg HST hBA hEr hgm hg1 hg2 hbW hrW;go_upto_region 11 with(go_at_call 64;refine HSTH.out.mono ?_;rintro e w3 ⟨nr,rfl,hS3⟩)
 obtain⟨⟨A',vs',m1',m2',D',hB3,_,hU3,_,hA3,_⟩,_⟩:=hS3;obtain⟨hgE,hEw,hWs,hrE⟩:=HGE.out;have hE3:Below E W w3:=hU3.below (by omega) HFP.out;have hr3:w3.heap[rb]?=some (.cells #[.int .i64 0,.slice none 0 0] 39):=(hE3.block rb hrE).trans HRW.out;obtain⟨sd,sc,hvs,_⟩:∃sd sc,vs' = .slice sd ((stF 25 [] (ents l)).1).length sc∧True:=by
  obtain⟨xss,h1,h2,_⟩:=hB3.row;obtain⟨sd,sc,h3,_⟩:=h1.shape;exact⟨sd,sc,by rw[h3,h2],trivial⟩
 obtain⟨nb,hnb⟩:∃nb,((stF 25 [] (ents l)).1).length=nb:=⟨_,rfl⟩;rw[hnb]at hvs;subst hvs;have hS0:SB g (.slice sd nb sc) w3.drew:=hB3.cells.1;have HLS:=zH0 E w3.drew vE (ents l) (HERW.out.below hE3.drew) (by rw[zBb,HN.out];omega) (by have h1:=hU3.size;have h2:w3.drew.heap.size=w3.heap.size:=rfl;omega) (by rw[zBb,HN.out];omega);clear hgE hEw hWs hrE;refine zAf (S:=SB g (.slice sd nb sc)) 7 rfl zAn hS0 (fun _=>?_);refine tq2 SB.facts 0 28 2 30 ?_;simp only[sZa,sZb,sZc];refine tq SB.facts 3 31 ?_;simp only[sZa,sZb,sZc];refine oc 1 w3.drew 29 65 #[vE] ?_;refine HLS.mono ?_;rintro e w4 ⟨rfl,hb4⟩;have hgl:g<w3.heap.size:=hB3.lt.1;have hrl:rb<w3.heap.size:=(Array.getElem?_eq_some_iff.1 hr3).1;have hS4:SB g (.slice sd nb sc) w4:=(hb4.cell (p:=⟨g,0,none⟩) hgl).trans hS0;refine⟨_,rfl,hS4,fun _=>?_⟩;simp only[sZa,sZb,sZc];refine tq SB.facts 4 32 ?_;simp only[sZa,sZb,sZc];obtain⟨hgE,hEw,hWs,hrE⟩:=HGE.out;have hr4:w4.heap[rb]?=some (.cells #[.int .i64 0,.slice none 0 0] 39):=(hb4.block rb hrl).trans hr3;have hc0:w4.cell? ⟨rb,0,none⟩=some (.int .i64 0):=by simp[World.cell?,hr4]
 have hc1:w4.cell? ⟨rb,1,none⟩=some (.slice none 0 0):=by simp[World.cell?,hr4]
 have hz:∀o,w4.frozen? ⟨rb,o,none⟩=false:=fun o=>by simp[World.frozen?,hr4]
 have hrg:g≠rb:=by omega
 obtain⟨w5,hw5⟩:∃w5,w5=(w4.setCell ⟨rb,0,none⟩ (.int .i64 (least (ents l)))).setCell ⟨rb,1,none⟩ (.slice sd nb sc):=⟨_,rfl⟩;have hp:=zA2 hr4 (.int .i64 (least (ents l))) (.slice sd nb sc);rw[←hw5]at hp;have he5:∀j,j≠rb→w5.heap[j]?=w4.heap[j]?:=fun j hj=>by rw[hw5,zAc _ _ _ _ hj,zAc _ _ _ _ hj]
 have hS5:SB g (.slice sd nb sc) w5:=(World.cell?_of_block (a:=⟨g,0,none⟩) (he5 g hrg)).trans hS4;have HFIN:Hid (BuildSays w w5 l (least (ents l)) (.slice sd nb sc) (stF 25 [] (ents l)).1):=by
  have hB4:=hB3.below (show Below w3.heap.size w3 w4 from⟨hb4.os,hb4.tape,hb4.output,hb4.size,hb4.block⟩);have hB5:=hB4.keepJ (w':=w5) (J:=fun j=>j=rb) (fun j _ hj=>he5 j hj) (fun j hj=>⟨fun f=>by have:=hB4.fp_lo j f;omega,fun f=>by rcases hA3 j f with h|h;exact h.elim;omega⟩);have hlow:w.heap.size≤E:=by have h1:=HR0.out.2.2;omega
  have h04:Below w.heap.size w w4:=by
   have h1:Below w.heap.size w w2:=HB0.out.trans (HB2.out.mono HB0.out.size);have h2:Below w.heap.size w W:=h1.trans (HBW.out.mono h1.size);have h3:Below w.heap.size w w3:=h2.trans (hE3.mono hlow);exact h3.trans ((show Below w3.heap.size w3 w4 from⟨hb4.os,hb4.tape,hb4.output,hb4.size,hb4.block⟩).mono h3.size)
  refine⟨?_,hB5.strow.mono hlow,HM.out⟩;rw[hw5];exact(h04.setCell (by show w.heap.size≤rb;rw[HR0.out.2.2];exact Nat.le_refl _) _).setCell (by show w.heap.size≤rb;rw[HR0.out.2.2];exact Nat.le_refl _) _
 clear hB3 hU3 hA3 hE3 hr3 hr4 hS0 hS4 HLS hb4 hgl hrl he5 hgE hEw hWs hrE;refine zB0 (i:=5) (w':=w5) (by kernel_rfl) rfl rfl (by rfl) (by rw[hw5];go_simp;first|done|exact rfl) hS5 (fun _=>?_);refine zAo (i:=6) (v := .int .i64 0) (w':=w5) 3 (by kernel_rfl) rfl rfl (by rfl) (by kernel_rfl) hS5 (fun _=>?_);refine wpAnyH_done (by kernel_rfl) ?_ _;clear hw5 hc0 hc1 hz;go_wp2;try simp only[Exit.inBlock,Exit.then]
 refine bodyPost_ret (zDt rfl hp.1 hp.2) rfl ?_;exact⟨_,_,_,rfl,HFIN.out⟩
