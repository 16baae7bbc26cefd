/- PROVED: every call of any script on any dictionary is answered as the document says, and behind each of the first twenty calls, and behind the last, the words are what it says (P14.1 to P14.3)
   Conditions: none: every input that can be -/
import Derived.Test.YtobjpljdgieklaaGreatDoorOpsIn
import Derived.Deep.Slices
set_option maxRecDepth 100000
set_option maxHeartbeats 8000000
namespace Go.Proofs.YtobjpljdgieklaaGreatDoor
section
open Go.RowKit Go.Shelf Go.Lib Nums Fm Pk Pm Fz Ed Lv
namespace Di
theorem zX1(w:World)(ht:Tabs w)(u:Value)(L:List Pr)(hu:PRow w u L)(hsm:Sm L)(h:¬(skip [] L∨zAf L≠0)):
 Calls Tryz.prog 13 #[u,.slice none 0 0] w fun e w'=>∃db,e = .returned (.tuple #[.pointer (some ⟨db,0,none⟩),u,.bool true])∧BSt w.heap.size w' db u L∧Below w.heap.size w w':=by
 have hB:w.heap.size≤w.heap.size:=Nat.le_refl _;have hb:zAf L=0:=by by_cases e:zAf L=0;exact e;exact absurd (.inr e) h
 have hs':¬(300<L.length∧L.length≤4096):=fun e=>h (.inl (.inr e))
 have hap:0<L.length→∀k,u.ownBlock=some k→k<w.heap.size:=fun h0 _ hk=>zGj hu h0 hk
 have HLD:Hid (Calls Tryz.prog 17 #[u] w fun e w'=>∃db,e = .returned (.tuple #[.pointer (some ⟨db,0,none⟩),.int .i64 0])∧LoadSays w.heap.size w w' L db):=zHq w.heap.size w hB (TabB.of ht) u L hu hsm hb;have hl:=(zAn hb).2.2;have HRG:Hid (∀W,Below w.heap.size w W→Calls Tryz.prog 36 #[u] W fun e w'=>e = .returned (.bool true)∧Below W.heap.size W w'):=fun W hW=>by
  have:=zD5 W u L (hu.below hW) (by omega) hsm;rw[zKs,decide_eq_true hb]at this;exact this
 have HST:Hid (∀w1 w2 db,LoadSays w.heap.size w w1 L db→Below w1.heap.size w1 w2→BSt w.heap.size w2 db u L∧Below w.heap.size w w2):=fun w1 w2 db h1 h2=>by
  obtain⟨lo,hi,wb,hd,_⟩:=h1.ex;have hbw:=h1.bel.trans (h2.mono h1.bel.size);refine⟨⟨⟨lo,hi,wb,_,L,[],hd.below h2,by simp,(Dok.start hb).2,fun h0 k hk hf=>?_⟩,hu.below hbw⟩,hbw.mono hB⟩;have h3:=hap h0 k hk;rcases hf with hf|hf
  · have:=h1.lo;omega
  · cases hf
 obtain⟨ad,cap,rfl⟩:=hu.form;generalize L.length=n at *;have h2:¬(300:Int)<(n:Int):=by omega
 clear hu h hsm hb ht hl hB hap hs';go_enter Tryz.func13,Tryz.ntmps13
 go_wp2_with (first
  |(go_at_call 17;refine HLD.out.mono ?_;rintro e w1 ⟨db,rfl,hls⟩;have HLS:Hid (LoadSays w.heap.size w w1 L db):=hls;clear hls)
  |(go_at_call 36;refine(HRG.out _ HLS.out.bel).mono ?_;rintro e w2 ⟨rfl,hb2⟩;have hst:=HST.out _ _ _ HLS.out hb2;have HB0:Hid (BSt w.heap.size w2 db (.slice ad n cap) L∧Below w.heap.size w w2):=hst;clear hb2 hst))
 go_loopg [0,10,11,12,44] 0 (fun gm s0 s10 s11 s12 s44 wr=>s44 = .int .i64 0∧s0 = .slice ad n cap∧Hid (BSt w.heap.size wr db (.slice ad n cap) L∧Below w.heap.size w wr))
 case atStart=>exact⟨rfl,rfl,HB0⟩
 case round=>
  obtain⟨rfl,rfl,HS⟩:=hrel;go_wp2;go_returns;exact⟨db,rfl,HS.out.1,HS.out.2⟩
end Di
open Di
theorem dall_walk(v z:Value)(w:World)(ht:Tabs w)(L:List Pr)(h:PRow w v L)(hs:Sm L)(hl:L.length≤9223372036854775807)(Z:List Oo)(hz:ORow w.heap.size w z Z)(hzs:OSm Z):
 Calls Tryz.prog 3 #[v,z] w fun e w'=>e = .returned (.bool true)∧Below w.heap.size w w':=by
 have HAL:Hid (∀W,Below w.heap.size w W→Calls Tryz.prog 14 #[] W fun e w'=>e = .returned (.bool true)∧Below W.heap.size W w'):=fun W hW=>zCq W (ht.below hW)
 obtain⟨vd,vc,hv⟩:=h.form;obtain⟨zd,zc,hzv⟩:=hz.form;by_cases hc:skip [] L∨zAf L≠0
 · have HBG:Hid (Calls Tryz.prog 13 #[v,.slice none 0 0] w fun e w'=>e = .returned (.tuple #[.pointer none,.slice none 0 0,.bool true])∧Below w.heap.size w w'):=zEl w ht v _ L _ [] h hs hl (ORow.nil w.heap.size w) hc
   subst hv;subst hzv;generalize L.length=n at *;generalize Z.length=m at *;clear h hs hz hzs hc ht hl;go_enter Tryz.func3,Tryz.ntmps3
   go_wp2_with (first
    |(go_at_call 13;refine HBG.out.mono ?_;rintro e w1 ⟨rfl,hb1⟩;have HB1:Hid (Below w.heap.size w w1):=hb1;clear hb1)
    |(go_at_call 14;refine(HAL.out _ HB1.out).mono ?_;rintro e w2 ⟨rfl,hb2⟩;have HB2:Hid (Below w.heap.size w w2):=HB1.out.trans (hb2.mono HB1.out.size);clear hb2))
   go_ret;exact⟨by first|rfl|simp,HB2.out⟩
 · have HBG:Hid (Calls Tryz.prog 13 #[v,.slice none 0 0] w fun e w'=>∃db,e = .returned (.tuple #[.pointer (some ⟨db,0,none⟩),v,.bool true])∧BSt w.heap.size w' db v L∧Below w.heap.size w w'):=zX1 w ht v L h hs hc
   by_cases hm:400<Z.length
   · subst hv
     subst hzv;generalize L.length=n at *;generalize Z.length=m at *;(have hm1:(400:Int)<(m:Int):=by omega);clear h hs hz hzs hc ht hl hm;go_enter Tryz.func3,Tryz.ntmps3
     go_wp2_with (first
      |(go_at_call 13;refine HBG.out.mono ?_;rintro e w1 ⟨db,rfl,hs1,hb1⟩;have HB1:Hid (Below w.heap.size w w1):=hb1;clear hb1 hs1)
      |(go_at_call 14;refine(HAL.out _ HB1.out).mono ?_;rintro e w2 ⟨rfl,hb2⟩;have HB2:Hid (Below w.heap.size w w2):=HB1.out.trans (hb2.mono HB1.out.size);clear hb2))
     go_ret;exact⟨by first|rfl|simp,HB2.out⟩
   · obtain⟨m,hmz⟩:∃m,Z.length=m:=⟨_,rfl⟩
     rw[hmz]at hzv hm;subst hv;subst hzv;(have HZ:Hid (∀W,Below w.heap.size w W→ORow w.heap.size W (.slice zd m zc) Z):=fun W hW=>hz.below hW);have HZL:Hid (Z.length=m):=hmz;have HZS:Hid (OSm Z):=hzs;(have HSD:Hid (∀W db u M,BSt w.heap.size W db u M→Calls Tryz.prog 16 #[.pointer (some ⟨db,0,none⟩),u] W fun e w'=>e = .returned (.bool true)∧Below W.heap.size W w'):=fun W db u M hb=>zGg _ W db u M hb);generalize L.length=n at *;(have hm1:¬(400:Int)<(m:Int):=by omega);clear h hs hz hzs hc ht hl hmz;go_enter Tryz.func3,Tryz.ntmps3;go_wp2_with (go_at_call 13;refine HBG.out.mono ?_;rintro e w1 ⟨db,rfl,hs1,hb1⟩;have HB0:Hid (BSt w.heap.size w1 db (.slice vd n vc) L∧Below w.heap.size w w1):=⟨hs1,hb1⟩;clear hs1 hb1)
     go_loopg [0,8,9,10,11,35] m (fun gm s0 s8 s9 s10 s11 s35 wr=>∃(j:Nat) (xd:Option Addr) (xn xc:Nat),s35 = .int .i64 j∧j≤m∧m-j≤gm∧s0 = .slice xd xn xc∧Hid (BSt w.heap.size wr db (.slice xd xn xc) ((Z.take j).foldl stepL L)∧Below w.heap.size w wr))
     case atStart=>exact⟨0,vd,n,vc,rfl,Nat.zero_le _,by omega,rfl,HB0⟩
     case round=>
      obtain⟨j,xd,xn,xc,rfl,hj,hgm,rfl,HS⟩:=hrel;by_cases hlt:j<m
      · have hltz:(j:Int)<(m:Int):=by omega
        obtain⟨o,ho⟩:∃o,Z[j]?=some o:=⟨Z[j]'(by have:=HZL.out;omega),List.getElem?_eq_getElem _⟩;obtain⟨g,off,hgo,hg,x0,x1,x2⟩:=(HZ.out wr HS.out.2).at ho;subst hgo;have HSTP:Hid ((Z.take (j+1)).foldl stepL L=stepL ((Z.take j).foldl stepL L) o):=by
         obtain⟨hjl,e⟩:=List.getElem?_eq_some_iff.1 ho;show _=_;rw[List.take_succ_eq_append_getElem hjl,e,List.foldl_append];rfl
        have HOS:Hid (o.2.1.size≤9223372036854775807):=HZS.out o (List.mem_of_getElem? ho);obtain⟨W5,hW5⟩:∃W5,W5=wr.alloc (.cells #[.int .i64 o.1,.string o.2.1,.int .i64 o.2.2] 29):=⟨_,rfl⟩;obtain⟨pb,hpb⟩:∃pb,pb=wr.heap.size:=⟨_,rfl⟩;(have hn5:W5.heap[pb]?=some (.cells #[.int .i64 o.1,.string o.2.1,.int .i64 o.2.2] 29):=by rw[hW5,hpb];exact zAb _ _);(have hb5:Below wr.heap.size wr W5:=by rw[hW5];exact(Below.refl _ wr).alloc (Nat.le_refl _) _);have HS5:Hid (BSt w.heap.size W5 db (.slice xd xn xc) ((Z.take j).foldl stepL L)∧Below w.heap.size w W5):=⟨HS.out.1.below hb5,HS.out.2.trans (hb5.mono HS.out.1.size)⟩;(have y0:W5.cell? ⟨pb,0,none⟩=some (.int .i64 o.1):=by simp[World.cell?,hn5]);(have y1:W5.cell? ⟨pb,1,none⟩=some (.string o.2.1):=by simp[World.cell?,hn5]);(have y2:W5.cell? ⟨pb,2,none⟩=some (.int .i64 o.2.2):=by simp[World.cell?,hn5]);have HDO:Hid (Calls Tryz.prog 15 #[.pointer (some ⟨db,0,none⟩),.slice xd xn xc,.agg #[.int .i64 o.1,.string o.2.1,.int .i64 o.2.2]] W5 fun e w'=>∃ad n cap,e = .returned (.tuple #[.slice ad n cap,.bool true])∧BSt w.heap.size w' db (.slice ad n cap) (stepL ((Z.take j).foldl stepL L) o)∧Below w.heap.size W5 w'):=zLj _ W5 db _ _ HS5.out.1 o HOS.out;clear ho hn5 hb5 hg;(go_upto_region 7 with fail);rw[←hpb,←hW5];clear hpb hW5 x0 x1 x2;(go_upto_region 8 with(go_at_call 15;refine HDO.out.mono ?_;rintro e w6 ⟨a6,n6,c6,rfl,hs6,hb6⟩;have HN:Hid (BSt w.heap.size w6 db (.slice a6 n6 c6) ((Z.take (j+1)).foldl stepL L)∧Below w.heap.size w w6):=⟨by rw[HSTP.out];exact hs6,HS5.out.2.trans hb6⟩;clear hs6 hb6 y0 y1 y2));by_cases hj20:j<20
        · have hjz:(j:Int)<20:=by omega
          go_wp2_with (go_at_call 16;refine(HSD.out _ _ _ _ HN.out.1).mono ?_;rintro e w7 ⟨rfl,hb7⟩;have HN7:Hid (BSt w.heap.size w7 db (.slice a6 n6 c6) ((Z.take (j+1)).foldl stepL L)∧Below w.heap.size w w7):=⟨HN.out.1.below hb7,HN.out.2.trans (hb7.mono HN.out.1.size)⟩;clear hb7);go_roundg (m-(j+1));(case measure=>omega);case rel=>exact⟨j+1,a6,n6,c6,by go_num,by omega,Nat.le_refl _,rfl,HN7⟩
        · have hjz:¬(j:Int)<20:=by omega
          go_wp2;go_roundg (m-(j+1));(case measure=>omega);case rel=>exact⟨j+1,a6,n6,c6,by go_num,by omega,Nat.le_refl _,rfl,HN⟩
      · have hltz:¬(j:Int)<(m:Int):=by omega
        go_wp2_with (first
         |(go_at_call 14;refine(HAL.out _ HS.out.2).mono ?_;rintro e w8 ⟨rfl,hb8⟩;have HS8:Hid (BSt w.heap.size w8 db (.slice xd xn xc) ((Z.take j).foldl stepL L)∧Below w.heap.size w w8):=⟨HS.out.1.below hb8,HS.out.2.trans (hb8.mono HS.out.1.size)⟩;clear hb8)
         |(go_at_call 16;refine(HSD.out _ _ _ _ HS8.out.1).mono ?_;rintro e w9 ⟨rfl,hb9⟩;have HB9:Hid (Below w.heap.size w w9):=HS8.out.2.trans (hb9.mono HS8.out.1.size);clear hb9))
        go_ret;exact⟨by first|rfl|simp,HB9.out⟩
end
section
open Go.ChangeShapes Go.WideShapes Go.ChangeAt Go.RowKit
open Go.ChangeMaps (open_string shut_string)
theorem dall_contract(H:Type)(enc:TypeId×Value→H)(W:World)(base:Nat)(args:Array Value)(ds gs:List (DataW H))(before:List MemPlace)
 (hval:∀(j:Nat) t v,Tryz.f3.params[j]?=some t→args[j]?=some v→Value.okWide Tryz.prog W .any base t v)
 (hW:DataW.Whole enc Tryz.prog Tryz.f3.params.toList Rows.dictAllSpec.vars false W args.toList ds gs before) (hL:laidMetH Tryz.prog Rows.dictAllRow.laid W):
 Calls Tryz.prog 3 args W fun e W'=>∃v,e = .returned v∧Rows.dictAllSpec.post enc Tryz.prog Tryz.f3 false true false false W args v W':=by
 have hW':=hW;obtain⟨p,q,hA0,hV,rfl,hfz,hnd⟩:=hW;have hA:DataW.TrodAll enc Tryz.prog W 0 (fun _=>true) true Tryz.f3.params.toList args.toList ds p:=hA0;rw[Tryz.params3]at hA hval;obtain⟨v0,vs0,d0,ds0,p0,q0,hargs,rfl,rfl,h0,r0⟩:=trodAll_cons hA;obtain⟨v1,vs1,d1,ds1,p1,q1,rfl,rfl,rfl,h1,r1⟩:=trodAll_cons r0;obtain⟨rfl,rfl,rfl⟩:=trodAll_nil r1;obtain rfl:args=#[v0,v1]:=by cases args;simp_all
 obtain⟨rfl,rfl⟩:=trodVars_none hV;obtain⟨L0,hR0,hS0,hl0,hbig0⟩:=zFm (hval 0 22 v0 rfl rfl) h0;obtain⟨L1,hR1,hS1,hbig1⟩:=Di.ops_in (hval 1 23 v1 rfl rfl) h1;clear hA0;simp only[List.append_nil]at hW';refine(dall_walk v0 v1 W (zB6 hL) L0 hR0 hS0 hl0 L1 hR1 hS1).mono fun e W' ⟨he,hb⟩=>?_
 subst he;have harg1:=Below.trod zCa (by kernel_rfl) (of_decide_eq_true (by kernel_rfl)) h1 hb (fun x hx=>hW'.lt x (by simp[hx]));have harg0:=Below.trod zCa (by kernel_rfl) (of_decide_eq_true (by kernel_rfl)) h0 hb (fun x hx=>hW'.lt x (by simp[hx]))
 exact⟨_,rfl,_,_,_,[],_,[],hW',trodAll_cons_mk (shut_bool Tryz.underlying4 _) trodAll_mk0,
  trodAll_cons_mk harg0 (trodAll_cons_mk harg1 trodAll_mk0),rfl,hb.frame _,fun h=>by cases h⟩
theorem zXc(os:Os):laidMet Tryz.prog Rows.dictAllRow.laid ((laidWorld os).forCall (fun _ _=>0) ⟨#[],#[.slice none 0 0,.slice none 0 0],[]⟩).memory:=
 laidMet_of_run' 8 (by kernel_rfl) (by kernel_rfl)
theorem zS4(os:Os){H:Type}(enc:TypeId×Value→H):∃places,DataW.whole enc Tryz.prog ((laidWorld os).forCall (fun _ _=>0) ⟨#[],#[.slice none 0 0,.slice none 0 0],[]⟩).memory Tryz.f3.params.toList Rows.dictAllSpec.vars false #[Value.slice none 0 0,Value.slice none 0 0].toList 8=some ([.nil,.nil],[],places):=
 ⟨[],by kernel_rfl⟩
theorem zO8(os:Os)(started:os.Started)(H:Type)(enc:TypeId×Value→H)(F:Stop.Interp):
 ReturnsInHanded {} Tryz.checked os 3 .any ((OpenSpec.ofChange Rows.dictAllSpec).preRow enc Tryz.prog Tryz.f3 Rows.dictAllRow.domain false Rows.dictAllRow.laid) (((OpenSpec.ofChange Rows.dictAllSpec).at F).post enc Tryz.prog Tryz.f3 false true false false):=by
 obtain⟨places,hx⟩:=zS4 os enc
 refine returnsInHanded_of_row (C:=Tryz.checked) (s:=OpenSpec.ofChange Rows.dictAllSpec) own started (by kernel_rfl) Tryz.func3
  (witness_row_at (enc:=enc) (C:=Tryz.checked) false (laidWorld os) #[.slice none 0 0,.slice none 0 0] rfl (by kernel_rfl) (by kernel_rfl) (by kernel_rfl)
   (OpenSpec.preRow_of_cond 8 hx (by kernel_rfl) (fun k hk=>by cases hk) (by kernel_rfl) (zXc os))) ?_
 intro W base args ds gs before hval hW _ _ _ hL _ _;exact dall_contract H enc W base args ds gs before hval hW hL
theorem zXb:Rows.DictAllSaid:=
 OpenClaim.holds_of_cond 3 Tryz.f3 rfl rfl rfl rfl rfl rfl rfl ⟨rfl,rfl,rfl,rfl,rfl⟩ rfl rfl rfl rfl rfl (by kernel_rfl) Tryz.func3 (by kernel_rfl)
  (of_decide_eq_true (by kernel_rfl)) (by unfold Func.isWrapper;first|(rw[if_pos (by decide +kernel)];kernel_rfl)|(rw[if_neg (by decide +kernel)];exact⟨rfl,rfl⟩))
  (fun os started H enc _ F=>by rw[OpenClaim.pre_eq_preRow];exact zO8 os started H enc F)
theorem zS5 (f : FuncId) (fn : Func) (hf : Tryz.pinned.checked.prog.funcNamed "abecedary/abecedarylaw14.DictAll" = some f) (hfn : Tryz.pinned.checked.prog.funcs[f]? = some fn) :
 true=Tryz.pinned.checked.prog.looks []∧∀(j:Nat) t,fn.params[j]?=some t→Tryz.pinned.checked.prog.wantsStandIn t=false:=by
 obtain rfl : f = 3 := Option.some.inj ((show Tryz.prog.funcNamed "abecedary/abecedarylaw14.DictAll" = some 3 by kernel_rfl).symm.trans hf) |>.symm;obtain rfl:fn=Tryz.f3:=(Option.some.inj (Tryz.func3.symm.trans hfn)).symm;refine⟨by kernel_rfl,fun j t ht=>?_⟩;rw[Tryz.params3]at ht;have hm:=Array.mem_of_getElem? ht;simp only[List.mem_toArray,List.mem_cons,List.not_mem_nil,or_false]at hm;rcases hm with rfl|rfl
 · exact(show Tryz.prog.wantsStandIn 22=false by kernel_rfl)
 · exact(show Tryz.prog.wantsStandIn 23=false by kernel_rfl)
theorem dall_card:Rows.DictAllCardSaid:=
 Claim7.holds_tied_plain_at .later [] _ _ _ _ zXb (fun _ h=>by cases h) (by kernel_rfl) (fun _ h=>by cases h) dictAll_row_tie rfl ⟨rfl,rfl⟩ (by kernel_rfl) rfl zS5 (by kernel_rfl)
end
