import Derived.Test.YtkdhdehobdfakaaGreatDoorJ17
import Derived.Handy
import Derived.Carry
set_option maxRecDepth 100000
set_option maxHeartbeats 8000000
namespace Go.Proofs.YtkdhdehobdfakaaGreatDoor
section
open Go.RowKit Nums Fm
theorem zE5{w:World}{b:Nat}{a0 a1:Value}{T:TypeId}{q:Nat×Nat}(h:w.heap[b]?=some (.cells #[a0,a1] T q))(x y:Value):((w.setCell ⟨b,0,none⟩ x).setCell ⟨b,1,none⟩ y).cell? ⟨b,0,none⟩=some x∧((w.setCell ⟨b,0,none⟩ x).setCell ⟨b,1,none⟩ y).cell? ⟨b,1,none⟩=some y:=by
 have h1:=zAt (o:=0) h x;have h2:=zAt (o:=1) h1 y;refine⟨?_,?_⟩
 · simp only[World.cell?,h2];rfl
 · simp only[World.cell?,h2];rfl
theorem zDv{tmps:Array Value}{w:World}{rb:Nat}{a b:Value}(h2:tmps.getD 2 undef = .pointer (some ⟨rb,0,none⟩))(c0:w.cell? ⟨rb,0,none⟩=some a)(c1:w.cell? ⟨rb,1,none⟩=some b):(results Tryz.f16 tmps).run Tryz.prog w = .ok (.tuple #[.agg #[a,b],tmps.getD 3 undef]) w:=by
 have h2':tmps[2]?.getD undef = .pointer (some ⟨rb,0,none⟩):=by simpa using h2
 simp[results,Tryz.results16,go_sem,h2',c0,c1]
def SB(g:Nat)(vs:Value)(w:World):Prop:=w.cell? ⟨g,0,none⟩=some vs
theorem SB.facts{g:Nat}{vs:Value}{w:World}(h:SB g vs w):w.cell? ⟨g,0,none⟩=some vs:=h
theorem BAt.start{E:Nat}{w:World}{g g1 g2:Nat}(hb:w.heap[g]?=some (.cells #[.slice none 0 0,.map (some g1),.map (some g2)] 96 (0,0)))(h1:w.heap[g1]?=some (.map #[] 0))(h2:w.heap[g2]?=some (.map #[] 0))(hne:g1≠g2)(hlo:E≤g∧E≤g1∧E≤g2):BAt (fun _=>False) E w g g1 g2 (.slice none 0 0) [] [] [] [[]]:=
 ⟨hb,⟨[],GOwn.nil _ _ _ _,rfl,fun i s hi=>by simp at hi⟩,⟨#[],0,h1,rfl,by simp⟩,⟨#[],0,h2,rfl,by simp⟩,⟨rfl,rfl,fun i x n hi=>by simp at hi,by simp⟩,⟨rfl,fun i x n hi=>by simp at hi,by simp⟩,hne,hlo⟩
theorem BAt.strow{A:Nat→Prop}{E g g1 g2:Nat}{w:World}{vs:Value}{b:List St}{m1:List (SK×Nat)}{m2:List (LK×Nat)}{D:List (List Arc)}(h:BAt A E w g g1 g2 vs b m1 m2 D):StRow E w vs b:=by
 obtain⟨xss,h1,h2,h3⟩:=h.row;refine⟨xss,h1,h2,fun i s hi=>?_⟩;obtain⟨va,h4,h5,_⟩:=h3 i s hi;exact⟨va,h4,h5⟩
theorem zI0(w:World)(v:Value)(l:List Pr)(h:PRow w v l)(hl:l.length≤9223372036854775807)(hsm:Sm l)(ht:Tabs w):
 Calls Tryz.prog 16 #[v] w fun e w'=>∃base vs b,e = .returned (.tuple #[.agg #[.int .i64 base,vs],.int .i64 (zAl l)])∧BuildSays w w' l base vs b:=by
 obtain⟨ad,cap,rfl⟩:=h.form;have HR:Hid (PRow w (.slice ad l.length cap) l):=h;obtain⟨n,hn⟩:∃n,l.length=n:=⟨_,rfl⟩;have HN:Hid (l.length=n):=hn;have HS:Hid (Sm l):=hsm;have HT:Hid (Tabs w):=ht;have HA:Hid (∀o,Below w.heap.size w (w.alloc o)):=fun o=>(Below.refl _ w).alloc (Nat.le_refl _) o
 rw[hn]at HR hl;clear h hsm ht;rw[hn];obtain⟨C,hC⟩:∃C,zAl l=C:=⟨_,rfl⟩;have HC:Hid (zAl l=C):=hC;rw[hC];have HZ:Hid (C≠0∨n=0→∀w',Below w.heap.size w w'→BuildSays w w' l 0 (.slice none 0 0) []):=fun h w' hb=>by
  refine⟨hb,StRow.nil _ _,?_⟩;rw[zAf,if_neg];rintro⟨h1,h2⟩;rcases h with h|h
  · exact h (HC.out.symm.trans h1)
  · exact h2 (List.eq_nil_of_length_eq_zero (HN.out.trans h))
 by_cases hbig:4096<n
 · have hbz:(4096:Int)<(n:Int):=by omega
   (have hC70:C=70:=by rw[←hC,zAl,if_pos (by omega)]);subst hC70;clear hC hn;go_enter Tryz.func16,Tryz.ntmps16;go_wp2;go_returns;exact⟨_,_,_,rfl,HZ.out (.inl (by decide)) _ (HA.out _)⟩
 have hbz:¬(4096:Int)<(n:Int):=by omega
 have hCf:zBc none l=C:=by rw[←hC,zAl,if_neg (by omega)]
 obtain⟨rb,hrb⟩:∃rb,rb=w.heap.size:=⟨_,rfl⟩;obtain⟨w0,hw0⟩:∃w0,w0=w.alloc (.cells #[.int .i64 0,.slice none 0 0] 31):=⟨_,rfl⟩;have hb0:Below w.heap.size w w0:=by rw[hw0];exact HA.out _
 have hr0:w0.heap[rb]?=some (.cells #[.int .i64 0,.slice none 0 0] 31):=by rw[hw0,hrb];exact zAb _ _
 have HB0:Hid (Below w.heap.size w w0):=hb0;have HR0:Hid (w0.heap[rb]?=some (.cells #[.int .i64 0,.slice none 0 0] 31)∧rb<w0.heap.size∧rb=w.heap.size):=⟨hr0,(Array.getElem?_eq_some_iff.1 hr0).1,hrb⟩;have HF:Hid (Calls Tryz.prog 35 #[.slice ad n cap] w0 fun e w'=>e = .returned (.int .i64 C)∧Below w0.heap.size w0 w'):=by
  have:=zJa w0 _ l (HR.out.below hb0) (by omega) HS.out (HT.out.below hb0);rw[hCf]at this;exact this
 clear hb0 hr0;by_cases hC0:¬C=0
 · have hCb:(C==0)=false:=beq_eq_false_iff_ne.2 hC0
   have HCN:Hid (C≠0):=hC0;clear hC hn hCf hC0;go_enter Tryz.func16,Tryz.ntmps16;(go_upto_region 1 with fail);rw[←hw0,←hrb];clear hw0 hrb;(go_upto_region 4 with(go_at_call 35;refine HF.out.mono ?_;rintro e w1 ⟨rfl,hb1⟩));have hr1:=(hb1.block rb HR0.out.2.1).trans HR0.out.1;(have hc0:w1.cell? ⟨rb,0,none⟩=some (.int .i64 0):=by simp[World.cell?,hr1]);(have hc1:w1.cell? ⟨rb,1,none⟩=some (.slice none 0 0):=by simp[World.cell?,hr1]);(have hz:∀o,w1.frozen? ⟨rb,o,none⟩=false:=fun o=>by simp[World.frozen?,hr1]);(have HB1:Hid (∀x y,Below w.heap.size w ((w1.setCell ⟨rb,0,none⟩ x).setCell ⟨rb,1,none⟩ y)):=fun x y=>((HB0.out.trans (hb1.mono HB0.out.size)).setCell (by show w.heap.size≤rb;rw[HR0.out.2.2];exact Nat.le_refl _) _).setCell (by show w.heap.size≤rb;rw[HR0.out.2.2];exact Nat.le_refl _) _);have HP:Hid _:=zE5 hr1 (.int .i64 0) (.slice none 0 0);clear hb1 hr1;go_wp2;(try simp only[Exit.inBlock,Exit.then]);refine bodyPost_ret (zDv rfl HP.out.1 HP.out.2) rfl ?_;exact⟨_,_,_,rfl,HZ.out (.inl HCN.out) _ (HB1.out _ _)⟩
 have hC0':C=0:=by omega
 subst hC0';clear hC0 hC hCf;by_cases hn0:n=0
 · subst hn0
   clear hn;go_enter Tryz.func16,Tryz.ntmps16;(go_upto_region 1 with fail);rw[←hw0,←hrb];clear hw0 hrb;(go_upto_region 4 with(go_at_call 35;refine HF.out.mono ?_;rintro e w1 ⟨rfl,hb1⟩));have hr1:=(hb1.block rb HR0.out.2.1).trans HR0.out.1;(have hc0:w1.cell? ⟨rb,0,none⟩=some (.int .i64 0):=by simp[World.cell?,hr1]);(have hc1:w1.cell? ⟨rb,1,none⟩=some (.slice none 0 0):=by simp[World.cell?,hr1]);(have hz:∀o,w1.frozen? ⟨rb,o,none⟩=false:=fun o=>by simp[World.frozen?,hr1]);(have HB1:Hid (∀x y,Below w.heap.size w ((w1.setCell ⟨rb,0,none⟩ x).setCell ⟨rb,1,none⟩ y)):=fun x y=>((HB0.out.trans (hb1.mono HB0.out.size)).setCell (by show w.heap.size≤rb;rw[HR0.out.2.2];exact Nat.le_refl _) _).setCell (by show w.heap.size≤rb;rw[HR0.out.2.2];exact Nat.le_refl _) _);have HP:Hid _:=zE5 hr1 (.int .i64 0) (.slice none 0 0);clear hb1 hr1;go_wp2;(try simp only[Exit.inBlock,Exit.then]);refine bodyPost_ret (zDv rfl HP.out.1 HP.out.2) rfl ?_;exact⟨_,_,_,rfl,HZ.out (.inr (by trivial)) _ (HB1.out _ _)⟩
 have hn0z:¬(n:Int)=0:=by omega
 have hn0b:((n:Int)==0)=false:=beq_eq_false_iff_ne.2 hn0z;have HD:Hid (DictOk l):=zB0 HC.out;have hl0:l≠[]:=fun e=>by rw[e]at hn;simp at hn;omega
 have hents0:ents l≠[]:=fun e=>by have:=zBa l;rw[e,hn]at this;simp at this;omega
 have HOK:Hid (Ok 25 (cut 0 (ents l))):=by show Ok _ _;rw[zLs];exact zEq 25 (ents l) hents0 HD.out.rise (fun e he=>by have:=HD.out.en.ln e he;omega)
 have HBK:Hid (bulk (cut 0 (ents l))≤102400):=by
  show _≤_;rw[zLs];have h1:=zPx HD.out.en.ln;rw[zBa,hn]at h1;omega
 have HM:Hid (zAf l=(least (ents l),(stF 25 [] (ents l)).1)):=by show _=_;rw[zAf,if_pos ⟨HC.out,hl0⟩]
 clear HZ hn hents0 hl0;go_enter Tryz.func16,Tryz.ntmps16;go_upto_region 1 with fail
 rw[←hw0,←hrb];clear hw0 hrb;go_upto_region 4 with(go_at_call 35;refine HF.out.mono ?_;rintro e w1 ⟨rfl,hb1⟩)
 have hb01:Below w.heap.size w w1:=HB0.out.trans (hb1.mono HB0.out.size);have HENT:=zPj w1 _ l (HR.out.below hb01) (by rw[HN.out];omega) HD.out.wd (HT.out.below hb01);have HENTH:Hid (Calls Tryz.prog 36 #[.slice ad n cap] w1 fun e w'=>∃v',e = .returned v'∧ERow w'.heap.size w' v' (ents l)∧Below w1.heap.size w1 w'):=HENT;have HB1:Hid (Below w0.heap.size w0 w1):=hb1;clear hb1 hb01 HENT;go_upto_region 9 with(go_at_call 36;refine HENTH.out.mono ?_;rintro e w2 ⟨vE,rfl,hE,hb2⟩)
 have HE2:Hid (ERow w2.heap.size w2 vE (ents l)):=hE;have HB2:Hid (Below w0.heap.size w0 w2):=HB1.out.trans (hb2.mono HB1.out.size);clear hE hb2;have hm1:(Instr.makeMap 93 none).run Tryz.prog w2 = .ok (.map (some w2.heap.size)) (w2.alloc (.map #[] 0)):=run_makeMap _ _;have hm2:(Instr.makeMap 94 none).run Tryz.prog (w2.alloc (.map #[] 0)) = .ok (.map (some (w2.heap.size+1))) ((w2.alloc (.map #[] 0)).alloc (.map #[] 0)):=by
  have:=run_makeMap (P:=Tryz.prog) 94 (w2.alloc (.map #[] 0));rw[show(w2.alloc (.map #[] 0)).heap.size=w2.heap.size+1 by simp]at this;exact this
 go_upto_region 10 with fail
 clear hm1 hm2;obtain⟨W,hW⟩:∃W,W=((w2.alloc (.map #[] 0)).alloc (.map #[] 0)).alloc (.cells #[.slice none 0 0,.map (some w2.heap.size),.map (some (w2.heap.size+1))] 96):=⟨_,rfl⟩;obtain⟨E,hE⟩:∃E,E=w2.heap.size:=⟨_,rfl⟩;rw[←hW,←hE];have hgm:W.heap[E+1+1]?=some (.cells #[.slice none 0 0,.map (some E),.map (some (E+1))] 96):=by
  have:((w2.alloc (.map #[] 0)).alloc (.map #[] 0)).heap.size=E+1+1:=by rw[hE];simp
  rw[hW,←this,hE];exact zAb _ _
 have hg1:W.heap[E]?=some (.map #[] 0):=by
  rw[hW,(MapKept.heap_alloc _ _).2 E (by rw[hE];simp;omega),(MapKept.heap_alloc _ _).2 E (by rw[hE];simp),hE];exact zAb _ _
 have hg2:W.heap[E+1]?=some (.map #[] 0):=by
  have:(w2.alloc (.map #[] 0)).heap.size=E+1:=by rw[hE];simp
  rw[hW,(MapKept.heap_alloc _ _).2 (E+1) (by rw[hE];simp),←this];exact zAb _ _
 have hbW:Below w2.heap.size w2 W:=by rw[hW];exact(((Below.refl _ w2).alloc (Nat.le_refl _) _).alloc (by simp) _).alloc (by simp;omega) _
 obtain⟨g,hg⟩:∃g,g=E+1+1:=⟨_,rfl⟩;rw[←hg]at hgm ⊢;have hBA:=BAt.start (E:=E) hgm hg1 hg2 (by omega) ⟨by omega,by omega,by omega⟩;have hEr:ERow E W vE (ents l):=by rw[hE];exact HE2.out.below hbW
 have HST:=zUr 25 (fun _=>False) E g E (E+1) (.slice none 0 0) [] [] [] [[]] W vE (ents l) 0 hBA hEr HOK.out HD.out.en (by rw[zBa];exact HD.out.len) (fun _ _=>Nat.zero_le _) (by omega) (by have:=HBK.out;simp only[List.length_nil];omega) (by have:=HBK.out;simp only[List.length_nil];omega) (fun _ h=>h.elim);rw[zLs]at HST;have HSTH:Hid (Calls Tryz.prog 37 #[.pointer (some ⟨g,0,none⟩),vE,.int .i64 0] W fun e w'=>∃n:Nat,e = .returned (.int .i64 n)∧StSays (fun _=>False) E g E (E+1) (.slice none 0 0) [] [] 25 (ents l) W w' n):=HST;have hrW:W.heap[rb]?=some (.cells #[.int .i64 0,.slice none 0 0] 31):=(hbW.block rb (Nat.lt_of_lt_of_le HR0.out.2.1 HB2.out.size)).trans ((HB2.out.block rb HR0.out.2.1).trans HR0.out.1);have HGE:Hid (g=E+1+1∧E=w2.heap.size∧W.heap.size=E+1+1+1∧rb<E):=⟨hg,hE,by rw[hW,hE];simp,by rw[hE];exact Nat.lt_of_lt_of_le HR0.out.2.1 HB2.out.size⟩;have HRW:Hid (W.heap[rb]?=some (.cells #[.int .i64 0,.slice none 0 0] 31)):=hrW;have HBW:Hid (Below w2.heap.size w2 W):=hbW;have HERW:Hid (ERow E W vE (ents l)):=hEr;have HFP:Hid (∀k,fpB g E (E+1) (.slice none 0 0) k→E≤k):=hBA.fp_lo;clear hW hE hg HST hBA hEr hgm hg1 hg2 hbW hrW;go_upto_region 11 with(go_at_call 37;refine HSTH.out.mono ?_;rintro e w3 ⟨nr,rfl,hS3⟩)
 obtain⟨⟨A',vs',m1',m2',D',hB3,_,hU3,_,hA3,_⟩,_⟩:=hS3;obtain⟨hgE,hEw,hWs,hrE⟩:=HGE.out;have hE3:Below E W w3:=hU3.below (by omega) HFP.out;have hr3:w3.heap[rb]?=some (.cells #[.int .i64 0,.slice none 0 0] 31):=(hE3.block rb hrE).trans HRW.out;obtain⟨sd,sc,hvs,_⟩:∃sd sc,vs' = .slice sd ((stF 25 [] (ents l)).1).length sc∧True:=by
  obtain⟨xss,h1,h2,_⟩:=hB3.row;obtain⟨sd,sc,h3,_⟩:=h1.shape;exact⟨sd,sc,by rw[h3,h2],trivial⟩
 obtain⟨nb,hnb⟩:∃nb,((stF 25 [] (ents l)).1).length=nb:=⟨_,rfl⟩;rw[hnb]at hvs;subst hvs;have hS0:SB g (.slice sd nb sc) w3.drew:=hB3.cells.1;have HLS:=zIb E w3.drew vE (ents l) (HERW.out.below hE3.drew) (by rw[zBa,HN.out];omega) (by have h1:=hU3.size;have h2:w3.drew.heap.size=w3.heap.size:=rfl;omega) (by rw[zBa,HN.out];omega);clear hgE hEw hWs hrE;refine zAh (S:=SB g (.slice sd nb sc)) 7 rfl zAr hS0 (fun _=>?_);refine tq2 SB.facts 0 28 2 30 ?_;simp only[sZa,sZb,sZc];refine tq SB.facts 3 31 ?_;simp only[sZa,sZb,sZc];refine oc 1 w3.drew 29 38 #[vE] ?_;refine HLS.mono ?_;rintro e w4 ⟨rfl,hb4⟩;have hgl:g<w3.heap.size:=hB3.lt.1;have hrl:rb<w3.heap.size:=(Array.getElem?_eq_some_iff.1 hr3).1;have hS4:SB g (.slice sd nb sc) w4:=(hb4.cell (p:=⟨g,0,none⟩) hgl).trans hS0;refine⟨_,rfl,hS4,fun _=>?_⟩;simp only[sZa,sZb,sZc];refine tq SB.facts 4 32 ?_;simp only[sZa,sZb,sZc];obtain⟨hgE,hEw,hWs,hrE⟩:=HGE.out;have hr4:w4.heap[rb]?=some (.cells #[.int .i64 0,.slice none 0 0] 31):=(hb4.block rb hrl).trans hr3;have hc0:w4.cell? ⟨rb,0,none⟩=some (.int .i64 0):=by simp[World.cell?,hr4]
 have hc1:w4.cell? ⟨rb,1,none⟩=some (.slice none 0 0):=by simp[World.cell?,hr4]
 have hz:∀o,w4.frozen? ⟨rb,o,none⟩=false:=fun o=>by simp[World.frozen?,hr4]
 have hrg:g≠rb:=by omega
 obtain⟨w5,hw5⟩:∃w5,w5=(w4.setCell ⟨rb,0,none⟩ (.int .i64 (least (ents l)))).setCell ⟨rb,1,none⟩ (.slice sd nb sc):=⟨_,rfl⟩;have hp:=zE5 hr4 (.int .i64 (least (ents l))) (.slice sd nb sc);rw[←hw5]at hp;have he5:∀j,j≠rb→w5.heap[j]?=w4.heap[j]?:=fun j hj=>by rw[hw5,zAc _ _ _ _ hj,zAc _ _ _ _ hj]
 have hS5:SB g (.slice sd nb sc) w5:=(World.cell?_of_block (a:=⟨g,0,none⟩) (he5 g hrg)).trans hS4;have HFIN:Hid (BuildSays w w5 l (least (ents l)) (.slice sd nb sc) (stF 25 [] (ents l)).1):=by
  have hB4:=hB3.below (show Below w3.heap.size w3 w4 from⟨hb4.os,hb4.tape,hb4.output,hb4.size,hb4.block⟩);have hB5:=hB4.keepJ (w':=w5) (J:=fun j=>j=rb) (fun j _ hj=>he5 j hj) (fun j hj=>⟨fun f=>by have:=hB4.fp_lo j f;omega,fun f=>by rcases hA3 j f with h|h;exact h.elim;omega⟩);have hlow:w.heap.size≤E:=by have h1:=HR0.out.2.2;omega
  have h04:Below w.heap.size w w4:=by
   have h1:Below w.heap.size w w2:=HB0.out.trans (HB2.out.mono HB0.out.size);have h2:Below w.heap.size w W:=h1.trans (HBW.out.mono h1.size);have h3:Below w.heap.size w w3:=h2.trans (hE3.mono hlow);exact h3.trans ((show Below w3.heap.size w3 w4 from⟨hb4.os,hb4.tape,hb4.output,hb4.size,hb4.block⟩).mono h3.size)
  refine⟨?_,hB5.strow.mono hlow,HM.out⟩;rw[hw5];exact(h04.setCell (by show w.heap.size≤rb;rw[HR0.out.2.2];exact Nat.le_refl _) _).setCell (by show w.heap.size≤rb;rw[HR0.out.2.2];exact Nat.le_refl _) _
 clear hB3 hU3 hA3 hE3 hr3 hr4 hS0 hS4 HLS hb4 hgl hrl he5 hgE hEw hWs hrE;refine zBy (i:=5) (w':=w5) (by kernel_rfl) rfl rfl (by rfl) (by rw[hw5];go_simp;first|done|exact rfl) hS5 (fun _=>?_);refine zAo (i:=6) (v := .int .i64 0) (w':=w5) 3 (by kernel_rfl) rfl rfl (by rfl) (by kernel_rfl) hS5 (fun _=>?_);refine wpAnyH_done (by kernel_rfl) ?_ _;clear hw5 hc0 hc1 hz;go_wp2;try simp only[Exit.inBlock,Exit.then]
 refine bodyPost_ret (zDv rfl hp.1 hp.2) rfl ?_;exact⟨_,_,_,rfl,HFIN.out⟩
theorem StRow.at{B:Nat}{w:World}{vs:Value}{b:List St}(h:StRow B w vs b)(h0:0<b.length):∃g cap,vs = .slice (some ⟨g,0,none⟩) b.length cap∧g<w.heap.size∧∀(i:Nat) (s:St),b[i]?=some s→∃va,AOwn B w va s.arcs∧w.cell? ⟨g,i*3,none⟩=some (.bool s.final)∧w.cell? ⟨g,i*3+1,none⟩=some (.int .i64 s.out)∧w.cell? ⟨g,i*3+2,none⟩=some va:=by
 obtain⟨xss,h1,h2,h3⟩:=h;obtain⟨g,cap,rfl,hg,_,_,hc⟩:=h1.cell (by omega);refine⟨g,cap,by rw[h2],hg,fun i s hi=>?_⟩;obtain⟨va,h4,h5⟩:=h3 i s hi;exact⟨va,h5,hc i 0 _ _ h4 rfl,hc i 1 _ _ h4 rfl,hc i 2 _ _ h4 rfl⟩
theorem StRow.shape{B:Nat}{w:World}{vs:Value}{b:List St}(h:StRow B w vs b):∃ad cap,vs = .slice ad b.length cap:=by
 obtain⟨xss,h1,h2,_⟩:=h;obtain⟨ad,cap,h3,_⟩:=h1.shape;exact⟨ad,cap,by rw[h3,h2]⟩
theorem GOwn.small{T:TypeId}{k B:Nat}{w:World}{v:Value}{xss:List (List Value)}(h:GOwn T k B w v xss):xss.length≤maxLen:=by
 obtain⟨_,hl,⟨_,h0⟩|⟨g,cap,cur,_,_,_,h3,h4,_⟩⟩:=h
 · omega
 · omega
theorem zGi{α:Type}{l m:List α}{k:Nat}{x y:α}(h:l.take k=m.take k)(hx:l[k]?=some x)(hy:m[k]?=some y)(e:x=y):l.take (k+1)=m.take (k+1):=by
 obtain⟨h1,e1⟩:=List.getElem?_eq_some_iff.1 hx;obtain⟨h2,e2⟩:=List.getElem?_eq_some_iff.1 hy;rw[List.take_succ_eq_append_getElem h1,List.take_succ_eq_append_getElem h2,e1,e2,h,e]
theorem zKs(B B':Nat)(w:World)(s t:St)(va vb:Value)(ha:AOwn B w va s.arcs)(hb:AOwn B' w vb t.arcs):
 Calls Tryz.prog 15 #[.agg #[.bool s.final,.int .i64 s.out,va],.agg #[.bool t.final,.int .i64 t.out,vb]] w fun e w'=>e = .returned (.bool (decide (s=t)))∧Below w.heap.size w w':=by
 obtain⟨ad1,cap1,rfl,_⟩:=GOwn.shape ha;obtain⟨ad2,cap2,rfl,_⟩:=GOwn.shape hb;rw[List.length_map]at ha hb ⊢;rw[List.length_map];obtain⟨n1,hn1⟩:∃n,s.arcs.length=n:=⟨_,rfl⟩;obtain⟨n2,hn2⟩:∃n,t.arcs.length=n:=⟨_,rfl⟩;have HN:Hid (s.arcs.length=n1∧t.arcs.length=n2):=⟨hn1,hn2⟩;have hm1:n1≤9223372036854775807:=by have:=GOwn.small ha;rw[List.length_map,hn1]at this;simp only[maxLen]at this;omega
 have hm2:n2≤9223372036854775807:=by have:=GOwn.small hb;rw[List.length_map,hn2]at this;simp only[maxLen]at this;omega
 rw[hn1]at ha ⊢;rw[hn2]at hb ⊢;have HR1:Hid (AOwn B w (.slice ad1 n1 cap1) s.arcs):=ha;have HR2:Hid (AOwn B' w (.slice ad2 n2 cap2) t.arcs):=hb;obtain⟨F,hF⟩:∃F,decide (s=t)=F:=⟨_,rfl⟩;have HF:Hid (decide (s=t)=F):=hF;rw[hF];have HBB0:Hid (∀o1 o2,Below w.heap.size w ((w.alloc o1).alloc o2)):=fun o1 o2=>((Below.refl _ w).alloc (Nat.le_refl _) o1).alloc (by simp) o2
 clear ha hb hn1 hn2 hF;by_cases hf:¬s.final=t.final
 · have HE:Hid (F=false):=by
    show _=_;rw[←HF.out];exact decide_eq_false fun e=>hf (by rw[e])
   generalize s.final=f1 at *;generalize t.final=f2 at *;have hfb:(f1==f2)=false:=beq_eq_false_iff_ne.2 hf;go_enter Tryz.func15,Tryz.ntmps15;go_wp2;go_ret;exact⟨by rw[HE.out];rfl,HBB0.out _ _⟩
 have hf':s.final=t.final:=Classical.not_not.1 hf;by_cases ho:¬s.out=t.out
 · have HE:Hid (F=false):=by
    show _=_;rw[←HF.out];exact decide_eq_false fun e=>ho (by rw[e])
   have hob:(s.out==t.out)=false:=beq_eq_false_iff_ne.2 ho;rw[hf'];go_enter Tryz.func15,Tryz.ntmps15;go_wp2;go_ret;exact⟨by rw[HE.out];rfl,HBB0.out _ _⟩
 have ho':s.out=t.out:=Classical.not_not.1 ho;by_cases hne:¬n1=n2
 · have HE:Hid (F=false):=by
    show _=_;rw[←HF.out];exact decide_eq_false fun e=>hne (by rw[←HN.out.1,←HN.out.2,e])
   have hneb:((n1:Int)==(n2:Int))=false:=beq_eq_false_iff_ne.2 (by omega);rw[hf',ho'];go_enter Tryz.func15,Tryz.ntmps15;go_wp2;go_ret;exact⟨by rw[HE.out];rfl,HBB0.out _ _⟩
 have hne':n1=n2:=Classical.not_not.1 hne;subst hne';have HFO:Hid (s.final=t.final∧s.out=t.out):=⟨hf',ho'⟩;rw[hf',ho'];clear hf hf' ho ho' hne;go_enter Tryz.func15,Tryz.ntmps15;go_upto_region 3 with fail
 obtain⟨W,hW⟩:∃W,W=(w.alloc (.cells #[.bool t.final,.int .i64 t.out,.slice ad1 n1 cap1] 56)).alloc (.cells #[.bool t.final,.int .i64 t.out,.slice ad2 n1 cap2] 56):=⟨_,rfl⟩;rw[←hW];have HW:Hid (Below w.heap.size w W):=by show Below _ _ _;rw[hW];exact HBB0.out _ _
 have b1:∀q,(W.drewN q).cell? ⟨w.heap.size,2,none⟩=some (.slice ad1 n1 cap1):=fun q=>by rw[hW];simp
 have b2:∀q,(W.drewN q).cell? ⟨w.heap.size+1,2,none⟩=some (.slice ad2 n1 cap2):=fun q=>by rw[hW];simp
 have HBB:Hid (∀q,Below w.heap.size w (W.drewN q)):=fun q=>belowN HW.out q
 clear hW;go_wp2
 go_loopg [5] n1 (fun g s5 wr=>∃(k q:Nat),s5 = .int .i64 k∧k≤n1∧n1-k≤g∧wr=W.drewN q∧Hid (s.arcs.take k=t.arcs.take k))
 case atStart=>exact⟨0,0,rfl,Nat.zero_le _,by omega,rfl,by show _=_;simp⟩
 case round=>
  obtain⟨k,q,rfl,hk,hg,rfl,HK⟩:=hrel;have c1':=b1 q;have c2':=b2 q;by_cases hlt:k<n1
  · have hltz:(k:Int)<(n1:Int):=by omega
    obtain⟨x,hx⟩:∃x,s.arcs[k]?=some x:=⟨s.arcs[k]'(by have:=HN.out;omega),List.getElem?_eq_getElem _⟩;obtain⟨y,hy⟩:∃y,t.arcs[k]?=some y:=⟨t.arcs[k]'(by have:=HN.out;omega),List.getElem?_eq_getElem _⟩;have r1:AOwn B W (.slice ad1 n1 cap1) s.arcs:=GOwn.below HR1.out HW.out;have r2:AOwn B' W (.slice ad2 n1 cap2) t.arcs:=GOwn.below HR2.out HW.out;obtain⟨g1,ca1,ea1,hg1,_,_,hc1⟩:=r1.at (by have:=HN.out;omega);obtain⟨g2,ca2,ea2,hg2,_,_,hc2⟩:=r2.at (by have:=HN.out;omega);simp only[Value.slice.injEq]at ea1 ea2;obtain⟨rfl,hnl1,rfl⟩:=ea1;obtain⟨rfl,hnl2,rfl⟩:=ea2;obtain⟨p0,p1,p2⟩:=hc1 k x hx;obtain⟨q0,q1,q2⟩:=hc2 k y hy;have HX:Hid (s.arcs[k]?=some x∧t.arcs[k]?=some y):=⟨hx,hy⟩;(have HNX:Hid (x=y→s.arcs.take (k+1)=t.arcs.take (k+1)):=fun e=>zGi HK.out hx hy e);have HNE:Hid (x≠y→F=false):=fun e=>by
     rw[←HF.out];(refine decide_eq_false fun e2=>e ?_);have h1:=HX.out.1;rw[show s.arcs=t.arcs from by rw[e2],HX.out.2]at h1;exact(Option.some.inj h1).symm
    clear hc1 hc2 hx hy r1 r2 hnl1 hnl2;by_cases e1:x.label=y.label
    · have s1:(x.label==y.label)=true:=beq_iff_eq.2 e1
      by_cases e2:x.out=y.out
      · have s2:(x.out==y.out)=true:=beq_iff_eq.2 e2
        by_cases e3:x.to=y.to
        · have s3:((x.to:Int)==(y.to:Int))=true:=beq_iff_eq.2 (by omega)
          have HK2:Hid (s.arcs.take (k+1)=t.arcs.take (k+1)):=HNX.out (by cases x;cases y;simp only at e1 e2 e3;rw[e1,e2,e3]);clear e1 e2 e3;(go_upto_region 6 with fail);go_quiet (fail);go_wp2_with fail;go_roundg (n1-(k+1));(case measure=>omega);case rel=>exact⟨k+1,q+nq,by go_num,by omega,Nat.le_refl _,rfl,HK2⟩
        · have s3:((x.to:Int)==(y.to:Int))=false:=beq_eq_false_iff_ne.2 (by omega)
          have HE:Hid (F=false):=HNE.out (fun e=>e3 (by rw[e]));clear e1 e2 e3;(go_upto_region 6 with fail);go_quiet (fail);go_wp2_with fail;go_ret;exact⟨by rw[HE.out];rfl,by first|exact HBB.out _|exact belowN (HBB.out _) _⟩
      · have s2:(x.out==y.out)=false:=beq_eq_false_iff_ne.2 e2
        have HE:Hid (F=false):=HNE.out (fun e=>e2 (by rw[e]));clear e1 e2;(go_upto_region 6 with fail);go_quiet (fail);go_wp2_with fail;go_ret;exact⟨by rw[HE.out];rfl,by first|exact HBB.out _|exact belowN (HBB.out _) _⟩
    · have s1:(x.label==y.label)=false:=beq_eq_false_iff_ne.2 e1
      have HE:Hid (F=false):=HNE.out (fun e=>e1 (by rw[e]));clear e1;(go_upto_region 6 with fail);go_quiet (fail);go_wp2_with fail;go_ret;exact⟨by rw[HE.out];rfl,by first|exact HBB.out _|exact belowN (HBB.out _) _⟩
  · have hltz:¬(k:Int)<(n1:Int):=by omega
    have HE:Hid (F=true):=by
     show _=_;rw[←HF.out];refine decide_eq_true ?_;have h:=HK.out;rw[List.take_of_length_le (by have:=HN.out;omega),List.take_of_length_le (by have:=HN.out;omega)]at h;have h2:=HFO.out;cases s;cases t;simp only at h h2;rw[h,h2.1,h2.2]
    go_wp2;go_ret;exact⟨by rw[HE.out];rfl,by first|exact HBB.out _|exact belowN (HBB.out _) _⟩
structure SM(ba bb ga gb i:Nat)(va vb:Value)(s t:St)(ua ub:Value)(w:World):Prop where
 a:w.cell? ⟨ba,1,none⟩=some va
 b:w.cell? ⟨bb,1,none⟩=some vb
 a0:w.cell? ⟨ga,i*3,none⟩=some (.bool s.final)
 a1:w.cell? ⟨ga,i*3+1,none⟩=some (.int .i64 s.out)
 a2:w.cell? ⟨ga,i*3+2,none⟩=some ua
 b0:w.cell? ⟨gb,i*3,none⟩=some (.bool t.final)
 b1:w.cell? ⟨gb,i*3+1,none⟩=some (.int .i64 t.out)
 b2:w.cell? ⟨gb,i*3+2,none⟩=some ub
theorem SM.facts{ba bb ga gb i:Nat}{va vb:Value}{s t:St}{ua ub:Value}{w:World}(h:SM ba bb ga gb i va vb s t ua ub w):w.cell? ⟨ba,1,none⟩=some va∧w.cell? ⟨bb,1,none⟩=some vb∧w.cell? ⟨ga,i*3,none⟩=some (.bool s.final)∧w.cell? ⟨ga,i*3+1,none⟩=some (.int .i64 s.out)∧w.cell? ⟨ga,i*3+2,none⟩=some ua∧w.cell? ⟨gb,i*3,none⟩=some (.bool t.final)∧w.cell? ⟨gb,i*3+1,none⟩=some (.int .i64 t.out)∧w.cell? ⟨gb,i*3+2,none⟩=some ub:=⟨h.a,h.b,h.a0,h.a1,h.a2,h.b0,h.b1,h.b2⟩
theorem SM.below{ba bb ga gb i:Nat}{va vb:Value}{s t:St}{ua ub:Value}{w w':World}(h:SM ba bb ga gb i va vb s t ua ub w)(hb:Below w.heap.size w w'):SM ba bb ga gb i va vb s t ua ub w':=by
 have k:∀{g o:Nat} {v:Value},w.cell? ⟨g,o,none⟩=some v→w'.cell? ⟨g,o,none⟩=some v:=fun {g o v} h=>(hb.cell (p:=⟨g,o,none⟩) (zAn h)).trans h
 exact⟨k h.a,k h.b,k h.a0,k h.a1,k h.a2,k h.b0,k h.b1,k h.b2⟩
theorem StRow.small{B:Nat}{w:World}{vs:Value}{b:List St}(h:StRow B w vs b):b.length≤9223372036854775807:=by
 obtain⟨xss,h1,h2,_⟩:=h;have:=GOwn.small h1;rw[h2]at this;simp only[maxLen]at this;omega
theorem same_any(B B':Nat)(w:World)(p q:Int)(va vb:Value)(b c:List St)(hb:StRow B w va b)(hc:StRow B' w vb c):
 Calls Tryz.prog 6 #[.agg #[.int .i64 p,va],.agg #[.int .i64 q,vb]] w fun e w'=>e = .returned (.bool (decide (p=q∧b=c)))∧Below w.heap.size w w':=by
 obtain⟨ad1,cap1,rfl⟩:=hb.shape;obtain⟨ad2,cap2,rfl⟩:=hc.shape;have hm1:=hb.small;have hm2:=hc.small;obtain⟨n1,hn1⟩:∃n,b.length=n:=⟨_,rfl⟩;obtain⟨n2,hn2⟩:∃n,c.length=n:=⟨_,rfl⟩;have HN:Hid (b.length=n1∧c.length=n2):=⟨hn1,hn2⟩;rw[hn1]at hb hm1 ⊢;rw[hn2]at hc hm2 ⊢;have HR1:Hid (StRow B w (.slice ad1 n1 cap1) b):=hb;have HR2:Hid (StRow B' w (.slice ad2 n2 cap2) c):=hc;obtain⟨F,hF⟩:∃F,decide (p=q∧b=c)=F:=⟨_,rfl⟩;have HF:Hid (decide (p=q∧b=c)=F):=hF;rw[hF];have HBB0:Hid (∀o1 o2,Below w.heap.size w ((w.alloc o1).alloc o2)):=fun o1 o2=>((Below.refl _ w).alloc (Nat.le_refl _) o1).alloc (by simp) o2
 clear hb hc hn1 hn2 hF;by_cases hpq:¬p=q
 · have HE:Hid (F=false):=by
    show _=_;rw[←HF.out];exact decide_eq_false fun e=>hpq e.1
   have hfb:(p==q)=false:=beq_eq_false_iff_ne.2 hpq;go_enter Tryz.func6,Tryz.ntmps6;go_wp2;go_ret;exact⟨by rw[HE.out];rfl,HBB0.out _ _⟩
 have hpq':p=q:=Classical.not_not.1 hpq;subst hpq';by_cases hne:¬n1=n2
 · have HE:Hid (F=false):=by
    show _=_;rw[←HF.out];exact decide_eq_false fun e=>hne (by rw[←HN.out.1,←HN.out.2,e.2])
   have hneb:((n1:Int)==(n2:Int))=false:=beq_eq_false_iff_ne.2 (by omega);go_enter Tryz.func6,Tryz.ntmps6;go_wp2;go_ret;exact⟨by rw[HE.out];rfl,HBB0.out _ _⟩
 have hne':n1=n2:=Classical.not_not.1 hne;subst hne';clear hpq hne;go_enter Tryz.func6,Tryz.ntmps6;go_upto_region 3 with fail
 obtain⟨W,hW⟩:∃W,W=(w.alloc (.cells #[.int .i64 p,.slice ad1 n1 cap1] 31)).alloc (.cells #[.int .i64 p,.slice ad2 n1 cap2] 31):=⟨_,rfl⟩;rw[←hW];obtain⟨ba,hba⟩:∃ba,ba=w.heap.size:=⟨_,rfl⟩;have HW:Hid (Below w.heap.size w W):=by show Below _ _ _;rw[hW];exact HBB0.out _ _
 have HB12:Hid (W.cell? ⟨ba,1,none⟩=some (.slice ad1 n1 cap1)∧W.cell? ⟨ba+1,1,none⟩=some (.slice ad2 n1 cap2)):=by rw[hba,hW];exact⟨by simp,by simp⟩
 rw[←hba];clear hW hba;go_wp2
 go_loopg [5,6] n1 (fun g s5 _ wr=>∃(k:Nat),s5 = .int .i64 k∧k≤n1∧n1-k≤g∧Hid (Below W.heap.size W wr)∧Hid (b.take k=c.take k))
 case atStart=>exact⟨0,rfl,Nat.zero_le _,by omega,Below.refl _ _,by show _=_;simp⟩
 case round=>
  obtain⟨k,rfl,hk,hg,HBr,HK⟩:=hrel;have c1':wr.cell? ⟨ba,1,none⟩=some (.slice ad1 n1 cap1):=(HBr.out.cell (p:=⟨ba,1,none⟩) (zAn HB12.out.1)).trans HB12.out.1;have c2':wr.cell? ⟨ba+1,1,none⟩=some (.slice ad2 n1 cap2):=(HBr.out.cell (p:=⟨ba+1,1,none⟩) (zAn HB12.out.2)).trans HB12.out.2;have hbw:Below w.heap.size w wr:=HW.out.trans (HBr.out.mono HW.out.size);have HBW:Hid (Below w.heap.size w wr):=hbw;clear hbw;by_cases hlt:k<n1
  · have hltz:(k:Int)<(n1:Int):=by omega
    obtain⟨x,hx⟩:∃x,b[k]?=some x:=⟨b[k]'(by have:=HN.out;omega),List.getElem?_eq_getElem _⟩;obtain⟨y,hy⟩:∃y,c[k]?=some y:=⟨c[k]'(by have:=HN.out;omega),List.getElem?_eq_getElem _⟩;obtain⟨ga,ca1,ea1,hg1,hc1⟩:=(HR1.out.below HBW.out).at (by have:=HN.out;omega);obtain⟨gb,ca2,ea2,hg2,hc2⟩:=(HR2.out.below HBW.out).at (by have:=HN.out;omega);simp only[Value.slice.injEq]at ea1 ea2;obtain⟨rfl,hnl1,rfl⟩:=ea1;obtain⟨rfl,hnl2,rfl⟩:=ea2;obtain⟨ua,hua,p0,p1,p2⟩:=hc1 k x hx;obtain⟨ub,hub,q0,q1,q2⟩:=hc2 k y hy;have hS:SM ba (ba+1) ga gb k (.slice (some ⟨ga,0,none⟩) n1 cap1) (.slice (some ⟨gb,0,none⟩) n1 cap2) x y ua ub wr:=⟨c1',c2',p0,p1,p2,q0,q1,q2⟩;obtain⟨xd,xc,hxv,_⟩:=GOwn.shape hua;obtain⟨yd,yc,hyv,_⟩:=GOwn.shape hub;obtain⟨xn,hxn⟩:∃xn,(x.arcs.map zCv).length=xn:=⟨_,rfl⟩;obtain⟨yn,hyn⟩:∃yn,(y.arcs.map zCv).length=yn:=⟨_,rfl⟩;rw[hxn]at hxv;rw[hyn]at hyv;subst hxv;subst hyv;have HSM:Hid _:=hS;have HUA:Hid (AOwn B wr (.slice xd xn xc) x.arcs):=hua;have HUB:Hid (AOwn B' wr (.slice yd yn yc) y.arcs):=hub;(have HNX:Hid (x=y→b.take (k+1)=c.take (k+1)):=fun e=>zGi HK.out hx hy e);have HNE:Hid (x≠y→F=false):=fun e=>by
     rw[←HF.out];(refine decide_eq_false fun e2=>e ?_);have h1:=hx;rw[e2.2,hy]at h1;exact(Option.some.inj h1).symm
    clear hc1 hc2 hx hy hnl1 hnl2 hua hub hS p0 p1 p2 q0 q1 q2 hxn hyn;(go_upto_region 6 with fail);clear c1' c2';have hS0:SM ba (ba+1) ga gb k (.slice (some ⟨ga,0,none⟩) n1 cap1) (.slice (some ⟨gb,0,none⟩) n1 cap2) x y (.slice xd xn xc) (.slice yd yn yc) wr.drew:=HSM.out.below (Below.refl _ wr).drew;have HCALL:=zKs B B' wr.drew x y _ _ (GOwn.below HUA.out (Below.refl _ wr).drew) (GOwn.below HUB.out (Below.refl _ wr).drew);refine zAh (S:=SM ba (ba+1) ga gb k (.slice (some ⟨ga,0,none⟩) n1 cap1) (.slice (some ⟨gb,0,none⟩) n1 cap2) x y (.slice xd xn xc) (.slice yd yn yc)) 12 rfl zAr hS0 (fun _=>?_);refine tq4 SM.facts 0 28 1 29 2 30 3 31 ?_;simp only[sZa,sZb,sZc];refine tq4 SM.facts 4 32 5 33 6 34 7 35 ?_;simp only[sZa,sZb,sZc];refine tq2 SM.facts 8 36 9 37 ?_;simp only[sZa,sZb,sZc];refine oc 10 wr.drew 38 15 #[.agg #[.bool x.final,.int .i64 x.out,.slice xd xn xc],.agg #[.bool y.final,.int .i64 y.out,.slice yd yn yc]] ?_;refine HCALL.mono ?_;rintro e w3 ⟨rfl,hb3⟩;have hb3r:Below wr.heap.size wr w3:=(Below.refl _ wr).drew.trans hb3;have hS3:=HSM.out.below hb3r;refine⟨_,rfl,hS3,fun _=>?_⟩;simp only[sZa,sZb,sZc];refine zAo (i:=11) (v := .bool (decide (x=y))) (w':=w3) 6 (by kernel_rfl) rfl rfl (by rfl) (by kernel_rfl) hS3 (fun _=>?_);refine wpAnyH_done (by kernel_rfl) ?_ _;have HB3:Hid (Below W.heap.size W w3):=HBr.out.trans (hb3r.mono HBr.out.size);have HB3w:Hid (Below w.heap.size w w3):=HBW.out.trans (hb3r.mono HBW.out.size);clear hb3 hb3r hS3 hS0 HCALL;by_cases hxy:x=y
    · have HK2:Hid (b.take (k+1)=c.take (k+1)):=HNX.out hxy
      rw[decide_eq_true hxy];clear hxy;simp only[sZa,sZb,sZc];go_wp2;go_roundg (n1-(k+1));(case measure=>omega);case rel=>exact⟨k+1,by go_num,by omega,Nat.le_refl _,HB3,HK2⟩
    · have HE:Hid (F=false):=HNE.out hxy
      rw[decide_eq_false hxy];clear hxy;simp only[sZa,sZb,sZc];go_wp2;go_ret;exact⟨by rw[HE.out];rfl,HB3w.out⟩
  · have hltz:¬(k:Int)<(n1:Int):=by omega
    have HE:Hid (F=true):=by
     show _=_;rw[←HF.out];refine decide_eq_true ⟨by trivial,?_⟩;have h:=HK.out;rw[List.take_of_length_le (by have:=HN.out;omega),List.take_of_length_le (by have:=HN.out;omega)]at h;exact h
    go_wp2;go_ret;exact⟨by rw[HE.out];rfl,HBW.out⟩
structure Behind(w wm:World)(mb:Nat)(base:Int)(vs:Value)(b:List St):Prop where
 bel:Below w.heap.size w wm
 row:StRow w.heap.size wm vs b
 mac:wm.heap[mb]?=some (.cells #[.int .i64 base,vs] 31)
theorem zS8{l:List Pr}:(zAf l).2.length≤102400:=by
 rw[zAf]
 split
 · rename_i h
   have hg:=zCd h.1 h.2;have h1:=(zFp 25 [] (ents l) (zEq 25 _ hg.1 hg.2.1 hg.2.2)).2.1;have h2:=zPx (zB0 h.1).en.ln;rw[zBa]at h2;have h3:=(zB0 h.1).len;simp only[List.length_nil]at h1;show(stF 25 [] (ents l)).1.length≤102400;omega
 · simp
end
