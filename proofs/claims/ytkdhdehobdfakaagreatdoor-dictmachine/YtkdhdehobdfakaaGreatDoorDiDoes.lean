import Derived.Test.YtkdhdehobdfakaaGreatDoorDiRef
namespace Go.Proofs.YtkdhdehobdfakaaGreatDoor
open Go.RowKit Go.Shelf Go.Lib Nums Fm Pk Pm Fz Ed Lv
set_option maxRecDepth 100000
namespace Di
abbrev Oo:=Int×ByteArray×Int
def opV(o:Oo):Value := .agg #[.int .i64 o.1,.string o.2.1,.int .i64 o.2.2]
def stepL(L:List Pr)(o:Oo):List Pr:=if o.1=0 then setL L o.2.1 o.2.2 else if o.1=1 then remL L o.2.1 else L
def Ap(db:Nat)(v u:Value)(L:List Pr):Prop:=0<L.length→∀k,u.ownBlock=some k→¬fpD db v k
theorem prow_upd{F:Nat→Prop}{w w':World}{u:Value}{L:List Pr}(h:PRow w u L)(hu:Upd F w w')(ha:0<L.length→∀k,u.ownBlock=some k→¬F k):PRow w' u L:=by
 obtain⟨ad,cap,rfl,hc⟩:=h;refine⟨ad,cap,rfl,fun h0=>?_⟩;obtain⟨g,off,rfl,hg,hx⟩:=hc h0;have e:=hu.block g hg (ha h0 g rfl);refine⟨g,off,rfl,Nat.lt_of_lt_of_le hg hu.size,fun i x hi=>⟨(World.cell?_of_block (a:=⟨g,off+i*2,none⟩) e).trans (hx i x hi).c0,(World.cell?_of_block (a:=⟨g,off+i*2+1,none⟩) e).trans (hx i x hi).c1⟩⟩
theorem zVi{w:World}{u:Value}{L:List Pr}(h:PRow w u L)(h0:0<L.length){k:Nat}(hk:u.ownBlock=some k):k<w.heap.size:=by
 obtain⟨ad,cap,rfl,hc⟩:=h;obtain⟨g,off,rfl,hg,_⟩:=hc h0;cases hk;exact hg
theorem prow_len{w w':World}{u:Value}{L L':List Pr}(h:PRow w u L)(h':PRow w' u L'):L.length=L'.length:=by
 obtain⟨ad,cap,e,_⟩:=h;obtain⟨ad',cap',e',_⟩:=h';rw[e]at e';simp only[Value.slice.injEq]at e';exact e'.2.1
structure DoSays(B:Nat)(w w':World)(db lo hi:Nat)(v u u':Value)(L':List Pr):Prop where
 ex:∃lo' hi' wb' v' base' over',DictAt B w' db lo' hi' wb' v' base' over'∧over'.length≤32∧zAe zAa base' over'=L'∧(v'=v∨∀k,v'.ownBlock=some k→w.heap.size≤k)∧((lo'=lo∧hi'=hi)∨w.heap.size≤lo')∧Ap db v' u' L'
 upd:Upd (fpD db v) w w'
 row:PRow w' u' L'
 new:u'=u∨∀k,u'.ownBlock=some k→w.heap.size≤k
theorem do_of{B:Nat}{w w1 w2:World}{db lo hi:Nat}{v u u':Value}{base over L':List Pr}(hm:MutSays B w w1 db lo hi v L')(hr:PRow w u (zAe zAa base over))(ha:Ap db v u (zAe zAa base over))(hn:NewL w1 w2 u u' L'):DoSays B w w2 db lo hi v u u' L':=by
 obtain⟨lo',hi',wb',v',b',o',k1,k2,k3,k4,k5⟩:=hm.ex;have h1:=k1.below hn.bel;have hs:=hm.upd.size;refine⟨⟨lo',hi',wb',v',b',o',h1,k2,k3,k4,k5,fun h0 k hk hf=>?_⟩,hm.upd.trans (G:=fun _=>False) (Upd.of_below hn.bel) (fun _ _ g=>g.elim),hn.row,hn.new.imp id (fun g k e=>Nat.le_trans hs (g k e))⟩;rcases hn.new with e|e
 · subst e
   (have h0':0<(zAe zAa base over).length:=by rw[prow_len hr hn.row];exact h0);have hlt:=zVi hr h0' hk;rcases hf with hf|hf
   · exact ha h0' k hk (.inl hf)
   · rcases k4 with k4|k4
     · exact ha h0' k hk (.inr (k4▸hf))
     · have:=k4 k hf;omega
 · have h3:=e k hk
   have:=k1.fp k hf;omega
theorem DoSays.from{B:Nat}{w W w':World}{db lo hi:Nat}{v u u':Value}{L':List Pr}(hb:Below w.heap.size w W)(h:DoSays B W w' db lo hi v u u' L'):DoSays B w w' db lo hi v u u' L':=by
 obtain⟨lo',hi',wb',v',b',o',k1,k2,k3,k4,k5,k6⟩:=h.ex;exact⟨⟨lo',hi',wb',v',b',o',k1,k2,k3,k4.imp id (fun g k e=>Nat.le_trans hb.size (g k e)),k5.imp id (Nat.le_trans hb.size),k6⟩,(Upd.of_below hb).trans h.upd (fun _ _ g=>g),h.row,h.new.imp id (fun g k e=>Nat.le_trans hb.size (g k e))⟩
set_option maxHeartbeats 2000000 in
theorem does_any(B:Nat)(w:World)(db lo hi wb:Nat)(v u:Value)(base over:List Pr)(h:DictAt B w db lo hi wb v base over)(hf:over.length≤32)(hr:PRow w u (zAe zAa base over))(ha:Ap db v u (zAe zAa base over))(o:Oo)(ho:o.2.1.size≤9223372036854775807):
 Calls Tryz.prog 11 #[.pointer (some ⟨db,0,none⟩),u,opV o] w fun e w'=>∃ad n cap,e = .returned (.tuple #[.slice ad n cap,.bool true])∧DoSays B w w' db lo hi v u (.slice ad n cap) (stepL (zAe zAa base over) o):=by
 obtain⟨ad,cap,hu⟩:=hr.form;obtain⟨W0,hW0⟩:∃W0,W0=w.alloc (.cells #[.int .i64 o.1,.string o.2.1,.int .i64 o.2.2] 40):=⟨_,rfl⟩;obtain⟨ob,hob⟩:∃ob,ob=w.heap.size:=⟨_,rfl⟩;have hb0:Below w.heap.size w W0:=by rw[hW0];exact(Below.refl _ w).alloc (Nat.le_refl _) _
 have hn0:W0.heap[ob]?=some (.cells #[.int .i64 o.1,.string o.2.1,.int .i64 o.2.2] 40):=by rw[hW0,hob];exact zAb _ _
 have h0:=h.below hb0;have hr0:=hr.below hb0;have hall:=h.ok.all;have HCO:Hid (∀W,Upd (fpD db v) W0 W→W.cell? ⟨ob,0,none⟩=some (.int .i64 o.1)∧W.cell? ⟨ob,1,none⟩=some (.string o.2.1)∧W.cell? ⟨ob,2,none⟩=some (.int .i64 o.2.2)):=fun W hW=>by
  have hne:¬fpD db v ob:=fun e=>by have:=(h.fp ob e).2;omega
  have:=(hW.block ob (Array.getElem?_eq_some_iff.1 hn0).1 hne).trans hn0;exact⟨by simp[World.cell?,this],by simp[World.cell?,this],by simp[World.cell?,this]⟩
 obtain⟨k0,k1,k2⟩:=HCO.out W0 (Upd.refl _ _);have HDO:Hid (∀w1 w2 u' L',MutSays B W0 w1 db lo hi v L'→NewL w1 w2 u u' L'→DoSays B w w2 db lo hi v u u' L'):=fun w1 w2 u' L' hm hn=>(do_of hm hr0 ha hn).from hb0
 have HRW:Hid (∀W,Upd (fpD db v) W0 W→PRow W u (zAe zAa base over)):=fun W hW=>prow_upd hr0 hW ha
 obtain⟨ok,os,on⟩:=o;unfold opV;simp only at *;by_cases c0:ok=0
 · subst c0
   (have e1:stepL (zAe zAa base over) (0,os,on)=setL (zAe zAa base over) os on:=by unfold stepL;rw[if_pos rfl]);rw[e1];have HS:Hid (Calls Tryz.prog 13 #[.pointer (some ⟨db,0,none⟩),.string os,.int .i64 on] W0 fun e w'=>e = .returned (.tuple #[.int .i64 (setH (zAe zAa base over) os on),.int .i64 (setE (zAe zAa base over) os on)])∧MutSays B W0 w' db lo hi v (setL (zAe zAa base over) os on)):=zYu B W0 db lo hi wb v base over h0 hf os ho on;(have HRS:Hid (∀W,PRow W u (zAe zAa base over)→Calls Tryz.prog 24 #[u,.string os,.int .i64 on] W fun e w'=>∃ad n cap,e = .returned (.tuple #[.slice ad n cap,.int .i64 (setH (zAe zAa base over) os on),.int .i64 (setE (zAe zAa base over) os on)])∧NewL W w' u (.slice ad n cap) (setL (zAe zAa base over) os on)):=fun W hW=>zSw W u _ hW hall os ho on);subst hu;generalize setH (zAe zAa base over) os on=rh at *;generalize setE (zAe zAa base over) os on=re at *;generalize (zAe zAa base over).length=n at *;(have q1:(rh==rh)=true:=by simp);(have q2:(re==re)=true:=by simp);clear h hf hr ha ho hb0 hn0 h0 hr0 hall e1;go_enter Tryz.func11,Tryz.ntmps11;(go_upto_region 1 with fail);rw[←hob,←hW0];clear hW0 hob
   go_wp2_with (first
    |(go_at_call 13;refine HS.out.mono ?_;rintro e w1 ⟨rfl,hm1⟩;obtain⟨y0,y1,y2⟩:=HCO.out w1 hm1.upd;have HR1:=HRW.out w1 hm1.upd;have HR1':Hid _:=HR1;have HM1:Hid (MutSays B W0 w1 db lo hi v (setL (zAe zAa base over) os on)):=hm1;clear hm1 HR1 k0 k1 k2)
    |(go_at_call 24;refine(HRS.out _ HR1'.out).mono ?_;rintro e w2 ⟨a2,n2,c2,rfl,hnl⟩;have HF:=HDO.out _ _ _ _ HM1.out hnl;have HFF:Hid _:=HF;clear HF hnl))
   go_ret2;exact⟨a2,n2,c2,by first|rfl|simp,HFF.out⟩
 · by_cases c1:ok=1
   · subst c1
     (have e1:stepL (zAe zAa base over) (1,os,on)=remL (zAe zAa base over) os:=by unfold stepL;rw[if_neg (by show ¬(1:Int)=0;decide),if_pos rfl]);rw[e1];have HS:Hid (Calls Tryz.prog 25 #[.pointer (some ⟨db,0,none⟩),.string os] W0 fun e w'=>e = .returned (.tuple #[.int .i64 (remH (zAe zAa base over) os),.int .i64 (remE (zAe zAa base over) os)])∧MutSays B W0 w' db lo hi v (remL (zAe zAa base over) os)):=zT6 B W0 db lo hi wb v base over h0 hf os ho;(have HRS:Hid (∀W,PRow W u (zAe zAa base over)→Calls Tryz.prog 26 #[u,.string os] W fun e w'=>∃ad n cap,e = .returned (.tuple #[.slice ad n cap,.int .i64 (remH (zAe zAa base over) os),.int .i64 (remE (zAe zAa base over) os)])∧NewL W w' u (.slice ad n cap) (remL (zAe zAa base over) os)):=fun W hW=>zKw W u _ hW hall os ho);subst hu;generalize remH (zAe zAa base over) os=rh at *;generalize remE (zAe zAa base over) os=re at *;generalize (zAe zAa base over).length=n at *;(have q1:(rh==rh)=true:=by simp);(have q2:(re==re)=true:=by simp);clear h hf hr ha ho hb0 hn0 h0 hr0 hall e1 c0;go_enter Tryz.func11,Tryz.ntmps11;(go_upto_region 1 with fail);rw[←hob,←hW0];clear hW0 hob
     go_wp2_with (first
      |(go_at_call 25;refine HS.out.mono ?_;rintro e w1 ⟨rfl,hm1⟩;obtain⟨y0,y1,y2⟩:=HCO.out w1 hm1.upd;have HR1:=HRW.out w1 hm1.upd;have HR1':Hid _:=HR1;have HM1:Hid (MutSays B W0 w1 db lo hi v (remL (zAe zAa base over) os)):=hm1;clear hm1 HR1 k0 k1 k2)
      |(go_at_call 26;refine(HRS.out _ HR1'.out).mono ?_;rintro e w2 ⟨a2,n2,c2,rfl,hnl⟩;have HF:=HDO.out _ _ _ _ HM1.out hnl;have HFF:Hid _:=HF;clear HF hnl))
     go_ret2;exact⟨a2,n2,c2,by first|rfl|simp,HFF.out⟩
   · have e1:stepL (zAe zAa base over) (ok,os,on)=zAe zAa base over:=by unfold stepL;rw[if_neg c0,if_neg c1]
     rw[e1];(have b0:(ok==0)=false:=by simpa using c0);(have b1:(ok==1)=false:=by simpa using c1);have HSAME:Hid (DoSays B w W0 db lo hi v u u (zAe zAa base over)):=HDO.out W0 W0 u _ (MutSays.same h0 hf (Below.refl _ _)) (NewL.same hr0 (Below.refl _ _));by_cases c2:ok=2
     · subst c2
       have HC:Hid (Calls Tryz.prog 27 #[.pointer (some ⟨db,0,none⟩)] W0 fun e w'=>e = .returned (.tuple #[])∧DoSays B w w' db lo hi v u u (zAe zAa base over)):=(zIz B W0 db lo hi wb v base over h0).mono (by
        rintro e w' ⟨rfl,hc⟩;have hm:MutSays B W0 w' db lo hi v (zAe zAa base over):=zIq (Upd.refl _ _) hc (Dok.start hall).2;exact⟨rfl,HDO.out _ _ u _ hm (NewL.same (HRW.out _ hm.upd) (Below.refl _ _))⟩)
       subst hu;generalize (zAe zAa base over).length=n at *;clear h hf hr ha ho hb0 hn0 h0 hr0 hall e1 c0 c1 HDO HRW HCO HSAME;go_enter Tryz.func11,Tryz.ntmps11;(go_upto_region 1 with fail);rw[←hob,←hW0];clear hW0 hob;go_wp2_with (go_at_call 27;refine HC.out.mono ?_;rintro e w1 ⟨rfl,hd⟩;have HFF:Hid _:=hd;clear hd k0 k1 k2);go_ret2;exact⟨_,_,_,rfl,HFF.out⟩
     · have b2:(ok==2)=false:=by simpa using c2
       subst hu;generalize (zAe zAa base over).length=n at *;clear h hf hr ha ho hb0 hn0 h0 hr0 hall e1 c0 c1 c2 HDO HRW HCO;go_enter Tryz.func11,Tryz.ntmps11;(go_upto_region 1 with fail);rw[←hob,←hW0];clear hW0 hob;go_wp2;go_ret2;exact⟨_,_,_,rfl,HSAME.out⟩
