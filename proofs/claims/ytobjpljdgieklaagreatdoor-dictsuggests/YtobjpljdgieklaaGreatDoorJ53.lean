import Derived.Test.YtobjpljdgieklaaGreatDoorDiRef
import Derived.Test.YtobjpljdgieklaaGreatDoorJ11
import Derived.Deep.QuietTactic
import Derived.BigQuiet
import Derived.Laws.StructEq
import Derived.Test.YtobjpljdgieklaaGreatDoorJ31
import Derived.Test.YtobjpljdgieklaaGreatDoorDiAlive
set_option maxRecDepth 100000
namespace Go.Proofs.YtobjpljdgieklaaGreatDoor
section
open Go.RowKit Go.Shelf Go.Lib Nums Fm Pk Pm Fz Ed Lv
namespace Di
abbrev Oo:=Int×ByteArray×Int
def opV(o:Oo):Value := .agg #[.int .i64 o.1,.string o.2.1,.int .i64 o.2.2]
def stepL(L:List Pr)(o:Oo):List Pr:=if o.1=0 then setL L o.2.1 o.2.2 else if o.1=1 then remL L o.2.1 else L
def Ap(db:Nat)(v u:Value)(L:List Pr):Prop:=0<L.length→∀k,u.ownBlock=some k→¬fpD db v k
theorem prow_upd{F:Nat→Prop}{w w':World}{u:Value}{L:List Pr}(h:PRow w u L)(hu:Upd F w w')(ha:0<L.length→∀k,u.ownBlock=some k→¬F k):PRow w' u L:=by
 obtain⟨ad,cap,rfl,hc⟩:=h;refine⟨ad,cap,rfl,fun h0=>?_⟩;obtain⟨g,off,rfl,hg,hx⟩:=hc h0;have e:=hu.block g hg (ha h0 g rfl);refine⟨g,off,rfl,Nat.lt_of_lt_of_le hg hu.size,fun i x hi=>⟨(World.cell?_of_block (a:=⟨g,off+i*2,none⟩) e).trans (hx i x hi).c0,(World.cell?_of_block (a:=⟨g,off+i*2+1,none⟩) e).trans (hx i x hi).c1⟩⟩
theorem zUl{w:World}{u:Value}{L:List Pr}(h:PRow w u L)(h0:0<L.length){k:Nat}(hk:u.ownBlock=some k):k<w.heap.size:=by
 obtain⟨ad,cap,rfl,hc⟩:=h;obtain⟨g,off,rfl,hg,_⟩:=hc h0;cases hk;exact hg
theorem prow_len{w w':World}{u:Value}{L L':List Pr}(h:PRow w u L)(h':PRow w' u L'):L.length=L'.length:=by
 obtain⟨ad,cap,e,_⟩:=h;obtain⟨ad',cap',e',_⟩:=h';rw[e]at e';simp only[Value.slice.injEq]at e';exact e'.2.1
structure DoSays(B:Nat)(w w':World)(db lo hi:Nat)(v u u':Value)(L':List Pr):Prop where
 ex:∃lo' hi' wb' v' base' over',DictAt B w' db lo' hi' wb' v' base' over'∧over'.length≤32∧zAc zAa base' over'=L'∧(v'=v∨∀k,v'.ownBlock=some k→w.heap.size≤k)∧((lo'=lo∧hi'=hi)∨w.heap.size≤lo')∧Ap db v' u' L'
 upd:Upd (fpD db v) w w'
 row:PRow w' u' L'
 new:u'=u∨∀k,u'.ownBlock=some k→w.heap.size≤k
theorem do_of{B:Nat}{w w1 w2:World}{db lo hi:Nat}{v u u':Value}{base over L':List Pr}(hm:MutSays B w w1 db lo hi v L')(hr:PRow w u (zAc zAa base over))(ha:Ap db v u (zAc zAa base over))(hn:NewL w1 w2 u u' L'):DoSays B w w2 db lo hi v u u' L':=by
 obtain⟨lo',hi',wb',v',b',o',k1,k2,k3,k4,k5⟩:=hm.ex;have h1:=k1.below hn.bel;have hs:=hm.upd.size;refine⟨⟨lo',hi',wb',v',b',o',h1,k2,k3,k4,k5,fun h0 k hk hf=>?_⟩,hm.upd.trans (G:=fun _=>False) (Upd.of_below hn.bel) (fun _ _ g=>g.elim),hn.row,hn.new.imp id (fun g k e=>Nat.le_trans hs (g k e))⟩;rcases hn.new with e|e
 · subst e
   (have h0':0<(zAc zAa base over).length:=by rw[prow_len hr hn.row];exact h0);have hlt:=zUl hr h0' hk;rcases hf with hf|hf
   · exact ha h0' k hk (.inl hf)
   · rcases k4 with k4|k4
     · exact ha h0' k hk (.inr (k4▸hf))
     · have:=k4 k hf;omega
 · have h3:=e k hk
   have:=k1.fp k hf;omega
theorem DoSays.from{B:Nat}{w W w':World}{db lo hi:Nat}{v u u':Value}{L':List Pr}(hb:Below w.heap.size w W)(h:DoSays B W w' db lo hi v u u' L'):DoSays B w w' db lo hi v u u' L':=by
 obtain⟨lo',hi',wb',v',b',o',k1,k2,k3,k4,k5,k6⟩:=h.ex;exact⟨⟨lo',hi',wb',v',b',o',k1,k2,k3,k4.imp id (fun g k e=>Nat.le_trans hb.size (g k e)),k5.imp id (Nat.le_trans hb.size),k6⟩,(Upd.of_below hb).trans h.upd (fun _ _ g=>g),h.row,h.new.imp id (fun g k e=>Nat.le_trans hb.size (g k e))⟩
set_option maxHeartbeats 2000000 in
theorem does_any(B:Nat)(w:World)(db lo hi wb:Nat)(v u:Value)(base over:List Pr)(h:DictAt B w db lo hi wb v base over)(hf:over.length≤32)(hr:PRow w u (zAc zAa base over))(ha:Ap db v u (zAc zAa base over))(o:Oo)(ho:o.2.1.size≤9223372036854775807):
 Calls Tryz.prog 15 #[.pointer (some ⟨db,0,none⟩),u,opV o] w fun e w'=>∃ad n cap,e = .returned (.tuple #[.slice ad n cap,.bool true])∧DoSays B w w' db lo hi v u (.slice ad n cap) (stepL (zAc zAa base over) o):=by
 obtain⟨ad,cap,hu⟩:=hr.form;obtain⟨W0,hW0⟩:∃W0,W0=w.alloc (.cells #[.int .i64 o.1,.string o.2.1,.int .i64 o.2.2] 29):=⟨_,rfl⟩;obtain⟨ob,hob⟩:∃ob,ob=w.heap.size:=⟨_,rfl⟩;have hb0:Below w.heap.size w W0:=by rw[hW0];exact(Below.refl _ w).alloc (Nat.le_refl _) _
 have hn0:W0.heap[ob]?=some (.cells #[.int .i64 o.1,.string o.2.1,.int .i64 o.2.2] 29):=by rw[hW0,hob];exact zAb _ _
 have h0:=h.below hb0;have hr0:=hr.below hb0;have hall:=h.ok.all;have HCO:Hid (∀W,Upd (fpD db v) W0 W→W.cell? ⟨ob,0,none⟩=some (.int .i64 o.1)∧W.cell? ⟨ob,1,none⟩=some (.string o.2.1)∧W.cell? ⟨ob,2,none⟩=some (.int .i64 o.2.2)):=fun W hW=>by
  have hne:¬fpD db v ob:=fun e=>by have:=(h.fp ob e).2;omega
  have:=(hW.block ob (Array.getElem?_eq_some_iff.1 hn0).1 hne).trans hn0;exact⟨by simp[World.cell?,this],by simp[World.cell?,this],by simp[World.cell?,this]⟩
 obtain⟨k0,k1,k2⟩:=HCO.out W0 (Upd.refl _ _);have HDO:Hid (∀w1 w2 u' L',MutSays B W0 w1 db lo hi v L'→NewL w1 w2 u u' L'→DoSays B w w2 db lo hi v u u' L'):=fun w1 w2 u' L' hm hn=>(do_of hm hr0 ha hn).from hb0
 have HRW:Hid (∀W,Upd (fpD db v) W0 W→PRow W u (zAc zAa base over)):=fun W hW=>prow_upd hr0 hW ha
 obtain⟨ok,os,on⟩:=o;unfold opV;simp only at *;by_cases c0:ok=0
 · subst c0
   (have e1:stepL (zAc zAa base over) (0,os,on)=setL (zAc zAa base over) os on:=by unfold stepL;rw[if_pos rfl]);rw[e1];have HS:Hid (Calls Tryz.prog 33 #[.pointer (some ⟨db,0,none⟩),.string os,.int .i64 on] W0 fun e w'=>e = .returned (.tuple #[.int .i64 (setH (zAc zAa base over) os on),.int .i64 (setE (zAc zAa base over) os on)])∧MutSays B W0 w' db lo hi v (setL (zAc zAa base over) os on)):=zXu B W0 db lo hi wb v base over h0 hf os ho on;(have HRS:Hid (∀W,PRow W u (zAc zAa base over)→Calls Tryz.prog 29 #[u,.string os,.int .i64 on] W fun e w'=>∃ad n cap,e = .returned (.tuple #[.slice ad n cap,.int .i64 (setH (zAc zAa base over) os on),.int .i64 (setE (zAc zAa base over) os on)])∧NewL W w' u (.slice ad n cap) (setL (zAc zAa base over) os on)):=fun W hW=>zR5 W u _ hW hall os ho on);subst hu;generalize setH (zAc zAa base over) os on=rh at *;generalize setE (zAc zAa base over) os on=re at *;generalize (zAc zAa base over).length=n at *;(have q1:(rh==rh)=true:=by simp);(have q2:(re==re)=true:=by simp);clear h hf hr ha ho hb0 hn0 h0 hr0 hall e1;go_enter Tryz.func15,Tryz.ntmps15;(go_upto_region 1 with fail);rw[←hob,←hW0];clear hW0 hob
   go_wp2_with (first
    |(go_at_call 33;refine HS.out.mono ?_;rintro e w1 ⟨rfl,hm1⟩;obtain⟨y0,y1,y2⟩:=HCO.out w1 hm1.upd;have HR1:=HRW.out w1 hm1.upd;have HR1':Hid _:=HR1;have HM1:Hid (MutSays B W0 w1 db lo hi v (setL (zAc zAa base over) os on)):=hm1;clear hm1 HR1 k0 k1 k2)
    |(go_at_call 29;refine(HRS.out _ HR1'.out).mono ?_;rintro e w2 ⟨a2,n2,c2,rfl,hnl⟩;have HF:=HDO.out _ _ _ _ HM1.out hnl;have HFF:Hid _:=HF;clear HF hnl))
   go_ret2;exact⟨a2,n2,c2,by first|rfl|simp,HFF.out⟩
 · by_cases c1:ok=1
   · subst c1
     (have e1:stepL (zAc zAa base over) (1,os,on)=remL (zAc zAa base over) os:=by unfold stepL;rw[if_neg (by show ¬(1:Int)=0;decide),if_pos rfl]);rw[e1];have HS:Hid (Calls Tryz.prog 34 #[.pointer (some ⟨db,0,none⟩),.string os] W0 fun e w'=>e = .returned (.tuple #[.int .i64 (remH (zAc zAa base over) os),.int .i64 (remE (zAc zAa base over) os)])∧MutSays B W0 w' db lo hi v (remL (zAc zAa base over) os)):=zTa B W0 db lo hi wb v base over h0 hf os ho;(have HRS:Hid (∀W,PRow W u (zAc zAa base over)→Calls Tryz.prog 30 #[u,.string os] W fun e w'=>∃ad n cap,e = .returned (.tuple #[.slice ad n cap,.int .i64 (remH (zAc zAa base over) os),.int .i64 (remE (zAc zAa base over) os)])∧NewL W w' u (.slice ad n cap) (remL (zAc zAa base over) os)):=fun W hW=>zKw W u _ hW hall os ho);subst hu;generalize remH (zAc zAa base over) os=rh at *;generalize remE (zAc zAa base over) os=re at *;generalize (zAc zAa base over).length=n at *;(have q1:(rh==rh)=true:=by simp);(have q2:(re==re)=true:=by simp);clear h hf hr ha ho hb0 hn0 h0 hr0 hall e1 c0;go_enter Tryz.func15,Tryz.ntmps15;(go_upto_region 1 with fail);rw[←hob,←hW0];clear hW0 hob
     go_wp2_with (first
      |(go_at_call 34;refine HS.out.mono ?_;rintro e w1 ⟨rfl,hm1⟩;obtain⟨y0,y1,y2⟩:=HCO.out w1 hm1.upd;have HR1:=HRW.out w1 hm1.upd;have HR1':Hid _:=HR1;have HM1:Hid (MutSays B W0 w1 db lo hi v (remL (zAc zAa base over) os)):=hm1;clear hm1 HR1 k0 k1 k2)
      |(go_at_call 30;refine(HRS.out _ HR1'.out).mono ?_;rintro e w2 ⟨a2,n2,c2,rfl,hnl⟩;have HF:=HDO.out _ _ _ _ HM1.out hnl;have HFF:Hid _:=HF;clear HF hnl))
     go_ret2;exact⟨a2,n2,c2,by first|rfl|simp,HFF.out⟩
   · have e1:stepL (zAc zAa base over) (ok,os,on)=zAc zAa base over:=by unfold stepL;rw[if_neg c0,if_neg c1]
     rw[e1];(have b0:(ok==0)=false:=by simpa using c0);(have b1:(ok==1)=false:=by simpa using c1);have HSAME:Hid (DoSays B w W0 db lo hi v u u (zAc zAa base over)):=HDO.out W0 W0 u _ (MutSays.same h0 hf (Below.refl _ _)) (NewL.same hr0 (Below.refl _ _));by_cases c2:ok=2
     · subst c2
       have HC:Hid (Calls Tryz.prog 25 #[.pointer (some ⟨db,0,none⟩)] W0 fun e w'=>e = .returned (.tuple #[])∧DoSays B w w' db lo hi v u u (zAc zAa base over)):=(zIu B W0 db lo hi wb v base over h0).mono (by
        rintro e w' ⟨rfl,hc⟩;have hm:MutSays B W0 w' db lo hi v (zAc zAa base over):=zIi (Upd.refl _ _) hc (Dok.start hall).2;exact⟨rfl,HDO.out _ _ u _ hm (NewL.same (HRW.out _ hm.upd) (Below.refl _ _))⟩)
       subst hu;generalize (zAc zAa base over).length=n at *;clear h hf hr ha ho hb0 hn0 h0 hr0 hall e1 c0 c1 HDO HRW HCO HSAME;go_enter Tryz.func15,Tryz.ntmps15;(go_upto_region 1 with fail);rw[←hob,←hW0];clear hW0 hob;go_wp2_with (go_at_call 25;refine HC.out.mono ?_;rintro e w1 ⟨rfl,hd⟩;have HFF:Hid _:=hd;clear hd k0 k1 k2);go_ret2;exact⟨_,_,_,rfl,HFF.out⟩
     · have b2:(ok==2)=false:=by simpa using c2
       subst hu;generalize (zAc zAa base over).length=n at *;clear h hf hr ha ho hb0 hn0 h0 hr0 hall e1 c0 c1 c2 HDO HRW HCO;go_enter Tryz.func15,Tryz.ntmps15;(go_upto_region 1 with fail);rw[←hob,←hW0];clear hW0 hob;go_wp2;go_ret2;exact⟨_,_,_,rfl,HSAME.out⟩
end Di
end
section
open Go.RowKit Go.Shelf Go.Lib Nums Fm Pk Pm Fz Ed Lv
namespace Di
def zEi(o:Oo):List Value:=[.int .i64 o.1,.string o.2.1,.int .i64 o.2.2]
def ORow(B:Nat)(w:World)(v:Value)(Z:List Oo):Prop:=GRow B 3 w v (Z.map zEi)
theorem ORow.below{B:Nat}{w w':World}{v:Value}{Z:List Oo}(h:ORow B w v Z)(hb:Below B w w'):ORow B w' v Z:=GRow.below h hb
theorem ORow.form{B:Nat}{w:World}{v:Value}{Z:List Oo}(h:ORow B w v Z):∃ad cap,v = .slice ad Z.length cap:=by
 obtain⟨ad,cap,e⟩:=GRow.shape h;exact⟨ad,cap,by rw[e,List.length_map]⟩
theorem ORow.at{B:Nat}{w:World}{ad:Option Addr}{n cap:Nat}{Z:List Oo}(h:ORow B w (.slice ad n cap) Z){j:Nat}{o:Oo}(hj:Z[j]?=some o):∃g off,ad=some ⟨g,off,none⟩∧g<B∧w.cell? ⟨g,off+j*3,none⟩=some (.int .i64 o.1)∧w.cell? ⟨g,off+j*3+1,none⟩=some (.string o.2.1)∧w.cell? ⟨g,off+j*3+2,none⟩=some (.int .i64 o.2.2):=by
 obtain⟨ad',cap',hv,hc⟩:=GRow.ex h;simp only[Value.slice.injEq]at hv;obtain⟨g,off,rfl,hg,hx⟩:=hc (by rw[List.length_map];have:=(List.getElem?_eq_some_iff.1 hj).1;omega);have e:(Z.map zEi)[j]?=some (zEi o):=by rw[List.getElem?_map,hj];rfl
 exact⟨g,off,hv.1,hg,hx j 0 _ _ e rfl,hx j 1 _ _ e rfl,hx j 2 _ _ e rfl⟩
def OSm(Z:List Oo):Prop:=∀o∈Z,o.2.1.size≤9223372036854775807
structure BSt(B:Nat)(W:World)(db:Nat)(u:Value)(L:List Pr):Prop where
 ex:∃lo hi wb v base over,DictAt B W db lo hi wb v base over∧over.length≤32∧zAc zAa base over=L∧Ap db v u L
 row:PRow W u L
theorem BSt.below{B:Nat}{W W':World}{db:Nat}{u:Value}{L:List Pr}(h:BSt B W db u L)(hb:Below W.heap.size W W'):BSt B W' db u L:=by
 obtain⟨lo,hi,wb,v,base,over,h1,h2,h3,h4⟩:=h.ex;exact⟨⟨lo,hi,wb,v,base,over,h1.below hb,h2,h3,h4⟩,h.row.below hb⟩
theorem BSt.size{B:Nat}{W:World}{db:Nat}{u:Value}{L:List Pr}(h:BSt B W db u L):B≤W.heap.size:=by
 obtain⟨lo,hi,wb,v,base,over,h1,_⟩:=h.ex;exact h1.size
theorem BSt.built{B:Nat}{W:World}{db:Nat}{u:Value}{L:List Pr}(h:BSt B W db u L):zAj L=0:=by
 obtain⟨lo,hi,wb,v,base,over,h1,_,rfl,_⟩:=h.ex;exact h1.ok.all
theorem does_bst(B:Nat)(W:World)(db:Nat)(u:Value)(L:List Pr)(h:BSt B W db u L)(o:Oo)(ho:o.2.1.size≤9223372036854775807):
 Calls Tryz.prog 15 #[.pointer (some ⟨db,0,none⟩),u,opV o] W fun e w'=>∃ad n cap,e = .returned (.tuple #[.slice ad n cap,.bool true])∧BSt B w' db (.slice ad n cap) (stepL L o)∧Below B W w':=by
 obtain⟨lo,hi,wb,v,base,over,h1,h2,rfl,h4⟩:=h.ex;refine(does_any B W db lo hi wb v u base over h1 h2 h.row h4 o ho).mono ?_;rintro e w' ⟨ad,n,cap,rfl,hd⟩;obtain⟨lo',hi',wb',v',b',o',k1,k2,k3,_,_,k6⟩:=hd.ex;exact⟨ad,n,cap,rfl,⟨⟨lo',hi',wb',v',b',o',k1,k2,k3,k6⟩,hd.row⟩,hd.upd.below h1.size (fun k g=>(h1.fp k g).1)⟩
theorem zIb:∀(l:List Pr) (p:Option Pr),zBb p l=0→zAu p l=true
 |[],_,_=>rfl
 |x::r,p,h=>by
  rw[zBb]at h;by_cases h0:oneF p x=0
  · rw[if_pos h0]at h
    rw[zAu,zIb r (some x) h,Bool.and_true];unfold oneF at h0
    split at h0
    · cases h0
    · rename_i c1
      split at h0
      · cases h0
      · rename_i c2
        split at h0
        · cases h0
        · rename_i c3
          unfold zE1;simp only[Bool.and_eq_true,decide_eq_true_eq];refine⟨⟨by simpa using c1,by omega,by omega⟩,by simpa using c3⟩
  · rw[if_neg h0]at h;exact absurd h h0
theorem zP9(l:List Pr):zDy l=decide (zAj l=0):=by
 by_cases h:zAj l=0
 · rw[decide_eq_true h]
   have hl:=(zAm h).2.2;unfold zAj at h;rw[if_neg (by omega)]at h;unfold zDy;rw[decide_eq_true hl,zIb l none h];rfl
 · rw[decide_eq_false h]
   cases hr:zDy l with
   |false=>rfl
   |true=>exact absurd (zOg hr) h
def skip(Z:List Oo)(L:List Pr):Prop:=400<Z.length∨(300<L.length∧L.length≤4096)
set_option maxHeartbeats 1000000 in
theorem zS3(w:World)(u z:Value)(L:List Pr)(B:Nat)(Z:List Oo)(hu:PRow w u L)(hz:ORow B w z Z)(hs:skip Z L):
 Calls Tryz.prog 13 #[u,z] w fun e w'=>e = .returned (.tuple #[.pointer none,.slice none 0 0,.bool true])∧Below w.heap.size w w':=by
 obtain⟨ad,cap,rfl⟩:=hu.form;obtain⟨zd,zc,rfl⟩:=hz.form;unfold skip at hs;generalize Z.length=m at *;generalize L.length=n at *;clear hu hz;by_cases hm:400<m
 · have h1:(400:Int)<(m:Int):=by omega
   clear hs;go_enter Tryz.func13,Tryz.ntmps13;go_wp2;go_returns;exact⟨rfl,Below.refl _ _⟩
 · have h1:¬(400:Int)<(m:Int):=by omega
   (have h2:(300:Int)<(n:Int):=by omega);(have h3:(n:Int)≤4096:=by omega);clear hs;go_enter Tryz.func13,Tryz.ntmps13;go_wp2;go_returns;exact⟨rfl,Below.refl _ _⟩
set_option maxHeartbeats 1000000 in
theorem zS4(w:World)(ht:Tabs w)(u z:Value)(L:List Pr)(B:Nat)(Z:List Oo)(hu:PRow w u L)(hsm:Sm L)(hl:L.length≤9223372036854775807)(hz:ORow B w z Z)(hs:¬skip Z L)(hb:zAj L≠0):
 Calls Tryz.prog 13 #[u,z] w fun e w'=>e = .returned (.tuple #[.pointer none,.slice none 0 0,.bool true])∧Below w.heap.size w w':=by
 have HLD:Hid (Calls Tryz.prog 17 #[u] w fun e w'=>e = .returned (.tuple #[.pointer none,.int .i64 (zAj L)])∧Below w.heap.size w w'):=Load_no w ht u L hu hsm hl hb;have HRG:Hid (∀W,Below w.heap.size w W→Calls Tryz.prog 36 #[u] W fun e w'=>e = .returned (.bool false)∧Below W.heap.size W w'):=fun W hW=>by
  have:=zGx W u L (hu.below hW) hl hsm;rw[zP9,decide_eq_false hb]at this;exact this
 obtain⟨ad,cap,rfl⟩:=hu.form;obtain⟨zd,zc,rfl⟩:=hz.form;have hs':¬400<Z.length∧¬(300<L.length∧L.length≤4096):=⟨fun h=>hs (.inl h),fun h=>hs (.inr h)⟩;obtain⟨C,hC⟩:∃C,zAj L=C:=⟨_,rfl⟩;rw[hC]at HLD hb;have hcb:(C==0)=false:=by simpa using hb
 generalize Z.length=m at *;generalize L.length=n at *;have h1:¬(400:Int)<(m:Int):=by omega
 clear hu hz hs hsm hb hC ht hl;by_cases hn:300<n
 · have h2:(300:Int)<(n:Int):=by omega
   (have h3:¬(n:Int)≤4096:=by omega);clear hs';go_enter Tryz.func13,Tryz.ntmps13
   go_wp2_with (first
    |(go_at_call 17;refine HLD.out.mono ?_;rintro e w1 ⟨rfl,hb1⟩;have HB1:Hid (Below w.heap.size w w1):=hb1;clear hb1)
    |(go_at_call 36;refine(HRG.out _ HB1.out).mono ?_;rintro e w2 ⟨rfl,hb2⟩;have HB2:Hid (Below w.heap.size w w2):=HB1.out.trans (hb2.mono HB1.out.size);clear hb2))
   go_returns;exact⟨by simp;simpa using hcb,HB2.out⟩
 · have h2:¬(300:Int)<(n:Int):=by omega
   clear hs';go_enter Tryz.func13,Tryz.ntmps13
   go_wp2_with (first
    |(go_at_call 17;refine HLD.out.mono ?_;rintro e w1 ⟨rfl,hb1⟩;have HB1:Hid (Below w.heap.size w w1):=hb1;clear hb1)
    |(go_at_call 36;refine(HRG.out _ HB1.out).mono ?_;rintro e w2 ⟨rfl,hb2⟩;have HB2:Hid (Below w.heap.size w w2):=HB1.out.trans (hb2.mono HB1.out.size);clear hb2))
   go_returns;exact⟨by simp;simpa using hcb,HB2.out⟩
set_option maxHeartbeats 4000000 in
theorem zXh(B:Nat)(w:World)(hB:B≤w.heap.size)(ht:TabB B w)(u z:Value)(L:List Pr)(Z:List Oo)(hu:PRow w u L)(hap:0<L.length→∀k,u.ownBlock=some k→k<B)(hsm:Sm L)(hz:ORow B w z Z)(hzs:OSm Z)(hs:¬skip Z L)(hb:zAj L=0):
 Calls Tryz.prog 13 #[u,z] w fun e w'=>∃db ad n cap,e = .returned (.tuple #[.pointer (some ⟨db,0,none⟩),.slice ad n cap,.bool true])∧BSt B w' db (.slice ad n cap) (Z.foldl stepL L)∧Below B w w':=by
 have HLD:Hid (Calls Tryz.prog 17 #[u] w fun e w'=>∃db,e = .returned (.tuple #[.pointer (some ⟨db,0,none⟩),.int .i64 0])∧LoadSays B w w' L db):=zLy B w hB ht u L hu hsm hb;have hl:=(zAm hb).2.2;have HRG:Hid (∀W,Below w.heap.size w W→Calls Tryz.prog 36 #[u] W fun e w'=>e = .returned (.bool true)∧Below W.heap.size W w'):=fun W hW=>by
  have:=zGx W u L (hu.below hW) (by omega) hsm;rw[zP9,decide_eq_true hb]at this;exact this
 have HST:Hid (∀w1 w2 db,LoadSays B w w1 L db→Below w1.heap.size w1 w2→BSt B w2 db u L∧Below B w w2):=fun w1 w2 db h1 h2=>by
  obtain⟨lo,hi,wb,hd,_⟩:=h1.ex;have hbw:=h1.bel.trans (h2.mono h1.bel.size);refine⟨⟨⟨lo,hi,wb,_,L,[],hd.below h2,by simp,(Dok.start hb).2,fun h0 k hk hf=>?_⟩,hu.below hbw⟩,hbw.mono hB⟩;have h3:=hap h0 k hk;rcases hf with hf|hf
  · have:=h1.lo;omega
  · cases hf
 obtain⟨ad,cap,rfl⟩:=hu.form;obtain⟨zd,zc,hzv⟩:=hz.form;obtain⟨m,hm⟩:∃m,Z.length=m:=⟨_,rfl⟩;rw[hm]at hzv;subst hzv;have HZ:Hid (∀W,Below B w W→ORow B W (.slice zd m zc) Z):=fun W hW=>hz.below hW
 have HZL:Hid (Z.length=m):=hm;have HZS:Hid (OSm Z):=hzs;have hs':¬400<m∧¬(300<L.length∧L.length≤4096):=⟨fun h=>hs (.inl (by omega)),fun h=>hs (.inr h)⟩;generalize L.length=n at *;have h1:¬(400:Int)<(m:Int):=by omega
 have h2:¬(300:Int)<(n:Int):=by omega
 clear hu hz hs hsm hb ht hl hB hm hzs hap hs';go_enter Tryz.func13,Tryz.ntmps13
 go_wp2_with (first
  |(go_at_call 17;refine HLD.out.mono ?_;rintro e w1 ⟨db,rfl,hls⟩;have HLS:Hid (LoadSays B w w1 L db):=hls;clear hls)
  |(go_at_call 36;refine(HRG.out _ HLS.out.bel).mono ?_;rintro e w2 ⟨rfl,hb2⟩;have hst:=HST.out _ _ _ HLS.out hb2;have HB0:Hid (BSt B w2 db (.slice ad n cap) L∧Below B w w2):=hst;clear hb2 hst))
 go_loopg [0,10,11,12,44] m (fun gm s0 s10 s11 s12 s44 wr=>∃(j:Nat) (xd:Option Addr) (xn xc:Nat),s44 = .int .i64 j∧j≤m∧m-j≤gm∧s0 = .slice xd xn xc∧Hid (BSt B wr db (.slice xd xn xc) ((Z.take j).foldl stepL L)∧Below B w wr))
 case atStart=>exact⟨0,ad,n,cap,rfl,Nat.zero_le _,by omega,rfl,HB0⟩
 case round=>
  obtain⟨j,xd,xn,xc,rfl,hj,hgm,rfl,HS⟩:=hrel;by_cases hlt:j<m
  · have hltz:(j:Int)<(m:Int):=by omega
    obtain⟨o,ho⟩:∃o,Z[j]?=some o:=⟨Z[j]'(by have:=HZL.out;omega),List.getElem?_eq_getElem _⟩;obtain⟨g,off,hgo,hg,x0,x1,x2⟩:=(HZ.out wr HS.out.2).at ho;subst hgo;have HSTP:Hid ((Z.take (j+1)).foldl stepL L=stepL ((Z.take j).foldl stepL L) o):=by
     obtain⟨hjl,e⟩:=List.getElem?_eq_some_iff.1 ho;show _=_;rw[List.take_succ_eq_append_getElem hjl,e,List.foldl_append];rfl
    have HOS:Hid (o.2.1.size≤9223372036854775807):=HZS.out o (List.mem_of_getElem? ho);obtain⟨W5,hW5⟩:∃W5,W5=wr.alloc (.cells #[.int .i64 o.1,.string o.2.1,.int .i64 o.2.2] 29):=⟨_,rfl⟩;obtain⟨pb,hpb⟩:∃pb,pb=wr.heap.size:=⟨_,rfl⟩;(have hn5:W5.heap[pb]?=some (.cells #[.int .i64 o.1,.string o.2.1,.int .i64 o.2.2] 29):=by rw[hW5,hpb];exact zAb _ _);(have hb5:Below wr.heap.size wr W5:=by rw[hW5];exact(Below.refl _ wr).alloc (Nat.le_refl _) _);have HS5:Hid (BSt B W5 db (.slice xd xn xc) ((Z.take j).foldl stepL L)∧Below B w W5):=⟨HS.out.1.below hb5,HS.out.2.trans (hb5.mono HS.out.1.size)⟩;(have y0:W5.cell? ⟨pb,0,none⟩=some (.int .i64 o.1):=by simp[World.cell?,hn5]);(have y1:W5.cell? ⟨pb,1,none⟩=some (.string o.2.1):=by simp[World.cell?,hn5]);(have y2:W5.cell? ⟨pb,2,none⟩=some (.int .i64 o.2.2):=by simp[World.cell?,hn5]);have HDO:Hid (Calls Tryz.prog 15 #[.pointer (some ⟨db,0,none⟩),.slice xd xn xc,.agg #[.int .i64 o.1,.string o.2.1,.int .i64 o.2.2]] W5 fun e w'=>∃ad n cap,e = .returned (.tuple #[.slice ad n cap,.bool true])∧BSt B w' db (.slice ad n cap) (stepL ((Z.take j).foldl stepL L) o)∧Below B W5 w'):=does_bst B W5 db _ _ HS5.out.1 o HOS.out;clear ho hn5 hb5 hg;(go_upto_region 11 with fail);rw[←hpb,←hW5];clear hpb hW5 x0 x1 x2;go_wp2_with (go_at_call 15;refine HDO.out.mono ?_;rintro e w6 ⟨a6,n6,c6,rfl,hs6,hb6⟩;have HN:Hid (BSt B w6 db (.slice a6 n6 c6) ((Z.take (j+1)).foldl stepL L)∧Below B w w6):=⟨by rw[HSTP.out];exact hs6,HS5.out.2.trans hb6⟩;clear hs6 hb6 y0 y1 y2);go_roundg (m-(j+1));(case measure=>omega);case rel=>exact⟨j+1,a6,n6,c6,by go_num,by omega,Nat.le_refl _,rfl,HN⟩
  · have hltz:¬(j:Int)<(m:Int):=by omega
    have HE:Hid (Z.take j=Z):=List.take_of_length_le (by have:=HZL.out;omega);go_wp2;go_returns;exact⟨db,xd,xn,xc,rfl,by have:=HS.out.1;rw[HE.out]at this;exact this,HS.out.2⟩
end Di
end
section
open Go.RowKit Go.Shelf Go.Lib Nums Fm Pk Pm Fz Ed Lv
namespace Di
theorem zXi(w:World)(ht:Tabs w)(u z:Value)(L:List Pr)(B:Nat)(Z:List Oo)(hu:PRow w u L)(hsm:Sm L)(hl:L.length≤9223372036854775807)(hz:ORow B w z Z)(h:skip Z L∨zAj L≠0):
 Calls Tryz.prog 13 #[u,z] w fun e w'=>e = .returned (.tuple #[.pointer none,.slice none 0 0,.bool true])∧Below w.heap.size w w':=by
 by_cases hs:skip Z L
 · exact zS3 w u z L B Z hu hz hs
 · rcases h with h|h
   · exact absurd h hs
   · exact zS4 w ht u z L B Z hu hsm hl hz hs h
theorem begun_on(w:World)(ht:Tabs w)(u z:Value)(L:List Pr)(E:Nat)(hE:E≤w.heap.size)(Z:List Oo)(hu:PRow w u L)(hsm:Sm L)(hz:ORow E w z Z)(hzs:OSm Z)(h:¬(skip Z L∨zAj L≠0)):
 Calls Tryz.prog 13 #[u,z] w fun e w'=>∃db ad n cap,e = .returned (.tuple #[.pointer (some ⟨db,0,none⟩),.slice ad n cap,.bool true])∧BSt w.heap.size w' db (.slice ad n cap) (Z.foldl stepL L)∧Below w.heap.size w w':=
 zXh w.heap.size w (Nat.le_refl _) (TabB.of ht) u z L Z hu (fun h0 _ hk=>zUl hu h0 hk) hsm (GRow.mono hz hE) hzs (fun e=>h (.inl e)) (by by_cases e:zAj L=0;exact e;exact absurd (.inr e) h)
theorem BSt.sug{B:Nat}{W:World}{db:Nat}{u:Value}{L:List Pr}(h:BSt B W db u L)(q:Mt)(hq:q.1.size≤9223372036854775807):
 Calls Tryz.prog 22 #[.pointer (some ⟨db,0,none⟩),.agg #[.string q.1,.int .i64 q.2.1,.int .i64 q.2.2]] W fun e w'=>∃ad n cap,e = .returned (.tuple #[.slice ad n cap,.int .i64 (allC q.1.data.toList q.2.1)])∧MRow w' (.slice ad n cap) (sugL L q)∧(∀k,(Value.slice ad n cap).ownBlock=some k→W.heap.size≤k)∧Below W.heap.size W w':=by
 obtain⟨lo,hi,wb,v,base,over,h1,h2,rfl,_⟩:=h.ex;exact zIr B W db lo hi wb v base over h1 q hq
theorem sug_len{L:List Pr}(hb:zAj L=0)(q:Mt):(sugL L q).length≤4096:=by
 unfold sugL;rw[Bt.bestF_len];have h1:=zHj L q.1.data.toList q.2.1;have h2:=(zAm hb).2.2;omega
end Di
end
