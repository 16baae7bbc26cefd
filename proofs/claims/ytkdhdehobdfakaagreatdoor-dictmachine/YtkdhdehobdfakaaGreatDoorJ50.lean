import Derived.Test.YtkdhdehobdfakaaGreatDoorDiDoes
import Derived.Test.YtkdhdehobdfakaaGreatDoorDiAlive
set_option maxRecDepth 100000
set_option maxHeartbeats 8000000
namespace Go.Proofs.YtkdhdehobdfakaaGreatDoor
section
open Go.RowKit Go.Shelf Go.Lib Nums Fm Pk Pm Fz Ed Lv
namespace Di
def zEj(o:Oo):List Value:=[.int .i64 o.1,.string o.2.1,.int .i64 o.2.2]
def ORow(B:Nat)(w:World)(v:Value)(Z:List Oo):Prop:=GRow B 3 w v (Z.map zEj)
theorem ORow.below{B:Nat}{w w':World}{v:Value}{Z:List Oo}(h:ORow B w v Z)(hb:Below B w w'):ORow B w' v Z:=GRow.below h hb
theorem ORow.form{B:Nat}{w:World}{v:Value}{Z:List Oo}(h:ORow B w v Z):∃ad cap,v = .slice ad Z.length cap:=by
 obtain⟨ad,cap,e⟩:=GRow.shape h;exact⟨ad,cap,by rw[e,List.length_map]⟩
theorem ORow.at{B:Nat}{w:World}{ad:Option Addr}{n cap:Nat}{Z:List Oo}(h:ORow B w (.slice ad n cap) Z){j:Nat}{o:Oo}(hj:Z[j]?=some o):∃g off,ad=some ⟨g,off,none⟩∧g<B∧w.cell? ⟨g,off+j*3,none⟩=some (.int .i64 o.1)∧w.cell? ⟨g,off+j*3+1,none⟩=some (.string o.2.1)∧w.cell? ⟨g,off+j*3+2,none⟩=some (.int .i64 o.2.2):=by
 obtain⟨ad',cap',hv,hc⟩:=GRow.ex h;simp only[Value.slice.injEq]at hv;obtain⟨g,off,rfl,hg,hx⟩:=hc (by rw[List.length_map];have:=(List.getElem?_eq_some_iff.1 hj).1;omega);have e:(Z.map zEj)[j]?=some (zEj o):=by rw[List.getElem?_map,hj];rfl
 exact⟨g,off,hv.1,hg,hx j 0 _ _ e rfl,hx j 1 _ _ e rfl,hx j 2 _ _ e rfl⟩
def OSm(Z:List Oo):Prop:=∀o∈Z,o.2.1.size≤9223372036854775807
structure BSt(B:Nat)(W:World)(db:Nat)(u:Value)(L:List Pr):Prop where
 ex:∃lo hi wb v base over,DictAt B W db lo hi wb v base over∧over.length≤32∧zAe zAa base over=L∧Ap db v u L
 row:PRow W u L
theorem BSt.below{B:Nat}{W W':World}{db:Nat}{u:Value}{L:List Pr}(h:BSt B W db u L)(hb:Below W.heap.size W W'):BSt B W' db u L:=by
 obtain⟨lo,hi,wb,v,base,over,h1,h2,h3,h4⟩:=h.ex;exact⟨⟨lo,hi,wb,v,base,over,h1.below hb,h2,h3,h4⟩,h.row.below hb⟩
theorem BSt.size{B:Nat}{W:World}{db:Nat}{u:Value}{L:List Pr}(h:BSt B W db u L):B≤W.heap.size:=by
 obtain⟨lo,hi,wb,v,base,over,h1,_⟩:=h.ex;exact h1.size
theorem BSt.built{B:Nat}{W:World}{db:Nat}{u:Value}{L:List Pr}(h:BSt B W db u L):zAl L=0:=by
 obtain⟨lo,hi,wb,v,base,over,h1,_,rfl,_⟩:=h.ex;exact h1.ok.all
theorem does_bst(B:Nat)(W:World)(db:Nat)(u:Value)(L:List Pr)(h:BSt B W db u L)(o:Oo)(ho:o.2.1.size≤9223372036854775807):
 Calls Tryz.prog 11 #[.pointer (some ⟨db,0,none⟩),u,opV o] W fun e w'=>∃ad n cap,e = .returned (.tuple #[.slice ad n cap,.bool true])∧BSt B w' db (.slice ad n cap) (stepL L o)∧Below B W w':=by
 obtain⟨lo,hi,wb,v,base,over,h1,h2,rfl,h4⟩:=h.ex;refine(does_any B W db lo hi wb v u base over h1 h2 h.row h4 o ho).mono ?_;rintro e w' ⟨ad,n,cap,rfl,hd⟩;obtain⟨lo',hi',wb',v',b',o',k1,k2,k3,_,_,k6⟩:=hd.ex;exact⟨ad,n,cap,rfl,⟨⟨lo',hi',wb',v',b',o',k1,k2,k3,k6⟩,hd.row⟩,hd.upd.below h1.size (fun k g=>(h1.fp k g).1)⟩
theorem zIk:∀(l:List Pr) (p:Option Pr),zBc p l=0→zAu p l=true
 |[],_,_=>rfl
 |x::r,p,h=>by
  rw[zBc]at h;by_cases h0:oneF p x=0
  · rw[if_pos h0]at h
    rw[zAu,zIk r (some x) h,Bool.and_true];unfold oneF at h0
    split at h0
    · cases h0
    · rename_i c1
      split at h0
      · cases h0
      · rename_i c2
        split at h0
        · cases h0
        · rename_i c3
          unfold zE8;simp only[Bool.and_eq_true,decide_eq_true_eq];refine⟨⟨by simpa using c1,by omega,by omega⟩,by simpa using c3⟩
  · rw[if_neg h0]at h;exact absurd h h0
theorem zQu(l:List Pr):zDy l=decide (zAl l=0):=by
 by_cases h:zAl l=0
 · rw[decide_eq_true h]
   have hl:=(zAp h).2.2;unfold zAl at h;rw[if_neg (by omega)]at h;unfold zDy;rw[decide_eq_true hl,zIk l none h];rfl
 · rw[decide_eq_false h]
   cases hr:zDy l with
   |false=>rfl
   |true=>exact absurd (zOz hr) h
def skip(Z:List Oo)(L:List Pr):Prop:=400<Z.length∨(300<L.length∧L.length≤4096)
theorem zTy(w:World)(u z:Value)(L:List Pr)(B:Nat)(Z:List Oo)(hu:PRow w u L)(hz:ORow B w z Z)(hs:skip Z L):
 Calls Tryz.prog 4 #[u,z] w fun e w'=>e = .returned (.tuple #[.pointer none,.slice none 0 0,.bool true])∧Below w.heap.size w w':=by
 obtain⟨ad,cap,rfl⟩:=hu.form;obtain⟨zd,zc,rfl⟩:=hz.form;unfold skip at hs;generalize Z.length=m at *;generalize L.length=n at *;clear hu hz;by_cases hm:400<m
 · have h1:(400:Int)<(m:Int):=by omega
   clear hs;go_enter Tryz.func4,Tryz.ntmps4;go_wp2;go_returns;exact⟨rfl,Below.refl _ _⟩
 · have h1:¬(400:Int)<(m:Int):=by omega
   (have h2:(300:Int)<(n:Int):=by omega);(have h3:(n:Int)≤4096:=by omega);clear hs;go_enter Tryz.func4,Tryz.ntmps4;go_wp2;go_returns;exact⟨rfl,Below.refl _ _⟩
theorem zTz(w:World)(ht:Tabs w)(u z:Value)(L:List Pr)(B:Nat)(Z:List Oo)(hu:PRow w u L)(hsm:Sm L)(hl:L.length≤9223372036854775807)(hz:ORow B w z Z)(hs:¬skip Z L)(hb:zAl L≠0):
 Calls Tryz.prog 4 #[u,z] w fun e w'=>e = .returned (.tuple #[.pointer none,.slice none 0 0,.bool true])∧Below w.heap.size w w':=by
 have HLD:Hid (Calls Tryz.prog 9 #[u] w fun e w'=>e = .returned (.tuple #[.pointer none,.int .i64 (zAl L)])∧Below w.heap.size w w'):=Load_no w ht u L hu hsm hl hb;have HRG:Hid (∀W,Below w.heap.size w W→Calls Tryz.prog 10 #[u] W fun e w'=>e = .returned (.bool false)∧Below W.heap.size W w'):=fun W hW=>by
  have:=zG4 W u L (hu.below hW) hl hsm;rw[zQu,decide_eq_false hb]at this;exact this
 obtain⟨ad,cap,rfl⟩:=hu.form;obtain⟨zd,zc,rfl⟩:=hz.form;have hs':¬400<Z.length∧¬(300<L.length∧L.length≤4096):=⟨fun h=>hs (.inl h),fun h=>hs (.inr h)⟩;obtain⟨C,hC⟩:∃C,zAl L=C:=⟨_,rfl⟩;rw[hC]at HLD hb;have hcb:(C==0)=false:=by simpa using hb
 generalize Z.length=m at *;generalize L.length=n at *;have h1:¬(400:Int)<(m:Int):=by omega
 clear hu hz hs hsm hb hC ht hl;by_cases hn:300<n
 · have h2:(300:Int)<(n:Int):=by omega
   (have h3:¬(n:Int)≤4096:=by omega);clear hs';go_enter Tryz.func4,Tryz.ntmps4
   go_wp2_with (first
    |(go_at_call 9;refine HLD.out.mono ?_;rintro e w1 ⟨rfl,hb1⟩;have HB1:Hid (Below w.heap.size w w1):=hb1;clear hb1)
    |(go_at_call 10;refine(HRG.out _ HB1.out).mono ?_;rintro e w2 ⟨rfl,hb2⟩;have HB2:Hid (Below w.heap.size w w2):=HB1.out.trans (hb2.mono HB1.out.size);clear hb2))
   go_returns;exact⟨by simp;simpa using hcb,HB2.out⟩
 · have h2:¬(300:Int)<(n:Int):=by omega
   clear hs';go_enter Tryz.func4,Tryz.ntmps4
   go_wp2_with (first
    |(go_at_call 9;refine HLD.out.mono ?_;rintro e w1 ⟨rfl,hb1⟩;have HB1:Hid (Below w.heap.size w w1):=hb1;clear hb1)
    |(go_at_call 10;refine(HRG.out _ HB1.out).mono ?_;rintro e w2 ⟨rfl,hb2⟩;have HB2:Hid (Below w.heap.size w w2):=HB1.out.trans (hb2.mono HB1.out.size);clear hb2))
   go_returns;exact⟨by simp;simpa using hcb,HB2.out⟩
theorem zYh(B:Nat)(w:World)(hB:B≤w.heap.size)(ht:TabB B w)(u z:Value)(L:List Pr)(Z:List Oo)(hu:PRow w u L)(hap:0<L.length→∀k,u.ownBlock=some k→k<B)(hsm:Sm L)(hz:ORow B w z Z)(hzs:OSm Z)(hs:¬skip Z L)(hb:zAl L=0):
 Calls Tryz.prog 4 #[u,z] w fun e w'=>∃db ad n cap,e = .returned (.tuple #[.pointer (some ⟨db,0,none⟩),.slice ad n cap,.bool true])∧BSt B w' db (.slice ad n cap) (Z.foldl stepL L)∧Below B w w':=by
 have HLD:Hid (Calls Tryz.prog 9 #[u] w fun e w'=>∃db,e = .returned (.tuple #[.pointer (some ⟨db,0,none⟩),.int .i64 0])∧LoadSays B w w' L db):=zL6 B w hB ht u L hu hsm hb;have hl:=(zAp hb).2.2;have HRG:Hid (∀W,Below w.heap.size w W→Calls Tryz.prog 10 #[u] W fun e w'=>e = .returned (.bool true)∧Below W.heap.size W w'):=fun W hW=>by
  have:=zG4 W u L (hu.below hW) (by omega) hsm;rw[zQu,decide_eq_true hb]at this;exact this
 have HST:Hid (∀w1 w2 db,LoadSays B w w1 L db→Below w1.heap.size w1 w2→BSt B w2 db u L∧Below B w w2):=fun w1 w2 db h1 h2=>by
  obtain⟨lo,hi,wb,hd,_⟩:=h1.ex;have hbw:=h1.bel.trans (h2.mono h1.bel.size);refine⟨⟨⟨lo,hi,wb,_,L,[],hd.below h2,by simp,(Dok.start hb).2,fun h0 k hk hf=>?_⟩,hu.below hbw⟩,hbw.mono hB⟩;have h3:=hap h0 k hk;rcases hf with hf|hf
  · have:=h1.lo;omega
  · cases hf
 obtain⟨ad,cap,rfl⟩:=hu.form;obtain⟨zd,zc,hzv⟩:=hz.form;obtain⟨m,hm⟩:∃m,Z.length=m:=⟨_,rfl⟩;rw[hm]at hzv;subst hzv;have HZ:Hid (∀W,Below B w W→ORow B W (.slice zd m zc) Z):=fun W hW=>hz.below hW
 have HZL:Hid (Z.length=m):=hm;have HZS:Hid (OSm Z):=hzs;have hs':¬400<m∧¬(300<L.length∧L.length≤4096):=⟨fun h=>hs (.inl (by omega)),fun h=>hs (.inr h)⟩;generalize L.length=n at *;have h1:¬(400:Int)<(m:Int):=by omega
 have h2:¬(300:Int)<(n:Int):=by omega
 clear hu hz hs hsm hb ht hl hB hm hzs hap hs';go_enter Tryz.func4,Tryz.ntmps4
 go_wp2_with (first
  |(go_at_call 9;refine HLD.out.mono ?_;rintro e w1 ⟨db,rfl,hls⟩;have HLS:Hid (LoadSays B w w1 L db):=hls;clear hls)
  |(go_at_call 10;refine(HRG.out _ HLS.out.bel).mono ?_;rintro e w2 ⟨rfl,hb2⟩;have hst:=HST.out _ _ _ HLS.out hb2;have HB0:Hid (BSt B w2 db (.slice ad n cap) L∧Below B w w2):=hst;clear hb2 hst))
 go_loopg [0,10,11,12,44] m (fun gm s0 s10 s11 s12 s44 wr=>∃(j:Nat) (xd:Option Addr) (xn xc:Nat),s44 = .int .i64 j∧j≤m∧m-j≤gm∧s0 = .slice xd xn xc∧Hid (BSt B wr db (.slice xd xn xc) ((Z.take j).foldl stepL L)∧Below B w wr))
 case atStart=>exact⟨0,ad,n,cap,rfl,Nat.zero_le _,by omega,rfl,HB0⟩
 case round=>
  obtain⟨j,xd,xn,xc,rfl,hj,hgm,rfl,HS⟩:=hrel;by_cases hlt:j<m
  · have hltz:(j:Int)<(m:Int):=by omega
    obtain⟨o,ho⟩:∃o,Z[j]?=some o:=⟨Z[j]'(by have:=HZL.out;omega),List.getElem?_eq_getElem _⟩;obtain⟨g,off,hgo,hg,x0,x1,x2⟩:=(HZ.out wr HS.out.2).at ho;subst hgo;have HSTP:Hid ((Z.take (j+1)).foldl stepL L=stepL ((Z.take j).foldl stepL L) o):=by
     obtain⟨hjl,e⟩:=List.getElem?_eq_some_iff.1 ho;show _=_;rw[List.take_succ_eq_append_getElem hjl,e,List.foldl_append];rfl
    have HOS:Hid (o.2.1.size≤9223372036854775807):=HZS.out o (List.mem_of_getElem? ho);obtain⟨W5,hW5⟩:∃W5,W5=wr.alloc (.cells #[.int .i64 o.1,.string o.2.1,.int .i64 o.2.2] 40):=⟨_,rfl⟩;obtain⟨pb,hpb⟩:∃pb,pb=wr.heap.size:=⟨_,rfl⟩;(have hn5:W5.heap[pb]?=some (.cells #[.int .i64 o.1,.string o.2.1,.int .i64 o.2.2] 40):=by rw[hW5,hpb];exact zAb _ _);(have hb5:Below wr.heap.size wr W5:=by rw[hW5];exact(Below.refl _ wr).alloc (Nat.le_refl _) _);have HS5:Hid (BSt B W5 db (.slice xd xn xc) ((Z.take j).foldl stepL L)∧Below B w W5):=⟨HS.out.1.below hb5,HS.out.2.trans (hb5.mono HS.out.1.size)⟩;(have y0:W5.cell? ⟨pb,0,none⟩=some (.int .i64 o.1):=by simp[World.cell?,hn5]);(have y1:W5.cell? ⟨pb,1,none⟩=some (.string o.2.1):=by simp[World.cell?,hn5]);(have y2:W5.cell? ⟨pb,2,none⟩=some (.int .i64 o.2.2):=by simp[World.cell?,hn5]);have HDO:Hid (Calls Tryz.prog 11 #[.pointer (some ⟨db,0,none⟩),.slice xd xn xc,.agg #[.int .i64 o.1,.string o.2.1,.int .i64 o.2.2]] W5 fun e w'=>∃ad n cap,e = .returned (.tuple #[.slice ad n cap,.bool true])∧BSt B w' db (.slice ad n cap) (stepL ((Z.take j).foldl stepL L) o)∧Below B W5 w'):=does_bst B W5 db _ _ HS5.out.1 o HOS.out;clear ho hn5 hb5 hg;(go_upto_region 11 with fail);rw[←hpb,←hW5];clear hpb hW5 x0 x1 x2;go_wp2_with (go_at_call 11;refine HDO.out.mono ?_;rintro e w6 ⟨a6,n6,c6,rfl,hs6,hb6⟩;have HN:Hid (BSt B w6 db (.slice a6 n6 c6) ((Z.take (j+1)).foldl stepL L)∧Below B w w6):=⟨by rw[HSTP.out];exact hs6,HS5.out.2.trans hb6⟩;clear hs6 hb6 y0 y1 y2);go_roundg (m-(j+1));(case measure=>omega);case rel=>exact⟨j+1,a6,n6,c6,by go_num,by omega,Nat.le_refl _,rfl,HN⟩
  · have hltz:¬(j:Int)<(m:Int):=by omega
    have HE:Hid (Z.take j=Z):=List.take_of_length_le (by have:=HZL.out;omega);go_wp2;go_returns;exact⟨db,xd,xn,xc,rfl,by have:=HS.out.1;rw[HE.out]at this;exact this,HS.out.2⟩
end Di
namespace Di
theorem zYi(w:World)(ht:Tabs w)(u z:Value)(L:List Pr)(B:Nat)(Z:List Oo)(hu:PRow w u L)(hsm:Sm L)(hl:L.length≤9223372036854775807)(hz:ORow B w z Z)(h:skip Z L∨zAl L≠0):
 Calls Tryz.prog 4 #[u,z] w fun e w'=>e = .returned (.tuple #[.pointer none,.slice none 0 0,.bool true])∧Below w.heap.size w w':=by
 by_cases hs:skip Z L
 · exact zTy w u z L B Z hu hz hs
 · rcases h with h|h
   · exact absurd h hs
   · exact zTz w ht u z L B Z hu hsm hl hz hs h
theorem begun_on(w:World)(ht:Tabs w)(u z:Value)(L:List Pr)(E:Nat)(hE:E≤w.heap.size)(Z:List Oo)(hu:PRow w u L)(hsm:Sm L)(hz:ORow E w z Z)(hzs:OSm Z)(h:¬(skip Z L∨zAl L≠0)):
 Calls Tryz.prog 4 #[u,z] w fun e w'=>∃db ad n cap,e = .returned (.tuple #[.pointer (some ⟨db,0,none⟩),.slice ad n cap,.bool true])∧BSt w.heap.size w' db (.slice ad n cap) (Z.foldl stepL L)∧Below w.heap.size w w':=
 zYh w.heap.size w (Nat.le_refl _) (TabB.of ht) u z L Z hu (fun h0 _ hk=>zVi hu h0 hk) hsm (GRow.mono hz hE) hzs (fun e=>h (.inl e)) (by by_cases e:zAl L=0;exact e;exact absurd (.inr e) h)
end Di
end
