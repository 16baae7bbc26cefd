import Derived.Test.YtkdhdehobdfakaaGreatDoorFzClo
namespace Go.Proofs.YtkdhdehobdfakaaGreatDoor
open Go.RowKit Nums Fm Pk Fz Ed Lv
set_option maxRecDepth 100000
theorem zQf{base:Int}{D:List (List En)}{b:List St}(hI:Fm.Inv D b)(hR:Rests base D){n:Nat}{s:St}(hn:b[n]?=some s){xs:List Int}{d:Nat}(hx:xs.length≤24){head:List Int}{wt:Int}(ht:Tells base head wt (exp D s))(its:List It):
 (∀j∈push xs d head wt s.arcs,ItOk base D b j)∧hits xs d (udF head wt s)++hits xs d (stE D (its++push xs d head wt s.arcs))=hits xs d (ud head wt (exp D s))++hits xs d (stE D its) ∧
 (hits xs d (udF head wt s)).length+(stE D (its++push xs d head wt s.arcs)).length≤(exp D s).length+(stE D its).length:=by
 refine⟨fun j hj=>?_,?_,?_⟩
 · unfold push at hj
   obtain⟨a,ha,rfl⟩:=List.mem_map.1 hj;have ha2:a∈s.arcs:=List.mem_reverse.1 (List.mem_filter.1 ha).1;obtain⟨h1,h2,h3⟩:=Tells.arc hI hR hn ht ha2;obtain⟨f1,f2,f3,f4⟩:=zDl hI hR hn a ha2;have hl:=(List.getElem?_eq_some_iff.1 hn).1;exact⟨by show a.to<b.length;omega,h1,h2,ht.lo,f2,h3⟩
 · rw[zVe hx,zQg,zCt,List.append_assoc]
 · have h1:=hits_len xs d (udF head wt s)
   have h2:=zQz D xs d head wt s.arcs;have h3:=congrArg List.length (zQg D s head wt);rw[zHv,List.length_append]at h3;rw[zJm,List.length_append];omega
theorem zN3{base:Int}{D:List (List En)}{b:List St}(hI:Fm.Inv D b)(hR:Rests base D){n:Nat}{s:St}(hn:b[n]?=some s):s.arcs.length≤4096:=by
 obtain⟨h1,_,h3⟩:=hI.row n s hn;have h4:=hR.few _ (List.mem_of_getElem? h1);rw[zLp]at h4;have h5:∀l:List Arc,(∀a∈l,a.to<D.length)→l.length≤(l.map fun a=>(D[a.to]?.getD []).length).sum:=by
  intro l
  induction l with
  |nil=>intro _;simp
  |cons a r ih=>
   intro h;(have h6:=ih fun x hx=>h x (by simp[hx]));have h7:=h a (by simp);have h8:1≤(D[a.to]?.getD []).length:=by
    rw[List.getElem?_eq_getElem h7,Option.getD_some];exact List.length_pos_iff.2 (hR.ne _ (List.getElem_mem h7))
   simp only[List.length_cons,List.map_cons,List.sum_cons];omega
 have h9:=h5 s.arcs h3.to;omega
structure ALp(w0:World)(B sb wb lb:Nat)(xs:List Int)(d:Nat)(base:Int)(D:List (List En))(b:List St)(l:List Pr)(its:List It)(fs:List Mt)(tv fv:Value)(cls:List Value)(W:World):Prop where
 sr:SrAt (fun _=>True) B W sb wb lb xs d tv fv cls its fs
 bel:Below w0.heap.size w0 W
 ok:∀i∈its,ItOk base D b i
 hit:fs++hits xs d (stE D its)=zDh xs d l
 few:fs.length+(stE D its).length≤l.length
def AllSays(w w':World)(l:List Pr)(word:List UInt8)(e:Int)(v:Value)(c:Int):Prop:=
 Below w.heap.size w w'∧((Go.Proofs.YtkdhdehobdfakaaGreatDoor.rightB word e=false∧v = .slice none 0 0∧c=110)∨(Go.Proofs.YtkdhdehobdfakaaGreatDoor.rightB word e=true∧c=0∧∃xs d,rs word=some xs∧e=(d:Nat)∧xs.length≤24∧d≤3∧GOwn 52 3 w.heap.size w' v ((zDh xs d l).map cellsM)))
theorem zMk:zAw []={ data:=#[] }:=by decide +kernel
theorem zJk{w0:World}{wb:Nat}{l:List Pr}(h:WkOn w0 wb l){k:Nat}{s:St}(hk:(zAf l).2[k]?=some s):zHt w0 wb (k:Int) s:=fun V hV=>by
 refine(zYs V wb l (h.below hV) k s hk).mono ?_;rintro e w' ⟨ad,cap,rfl,h1,h2,h3⟩;exact⟨ad,cap,true,rfl,h1,h2,h3⟩
theorem zSl{w0:World}{wb:Nat}{l:List Pr}(h:WkOn w0 wb l):zHt w0 wb (-1) ⟨false,0,[]⟩:=fun V hV=>by
 refine(State_no V wb l (h.below hV) (-1) (by omega)).mono ?_;rintro e w' ⟨rfl,h1⟩;refine⟨none,0,false,rfl,⟨⟨none,0,rfl,fun h=>absurd h (by simp)⟩,fun a ha=>(by cases ha),by simp⟩,fun g hg=>(by cases hg),h1⟩
theorem zUw{α:Type}{l:List α}{n:Nat}(h:l.length=n+1):∃r x,l=r++[x]:=by
 have:l≠[]:=fun e=>by rw[e]at h;cases h
 exact⟨l.dropLast,l.getLast this,(List.dropLast_concat_getLast this).symm⟩
set_option maxHeartbeats 4000000 in
theorem All_any(w:World)(wb:Nat)(l:List Pr)(hon:WkOn w wb l)(word:ByteArray)(e:Int)(hm:word.size≤9223372036854775807):
 Calls Tryz.prog 32 #[.pointer (some ⟨wb,0,none⟩),.string word,.int .i64 e] w fun x w'=>∃v c,x = .returned (.tuple #[v,.int .i64 c])∧AllSays w w' l word.data.toList e v c:=by
 have HNEW:Hid (Calls Tryz.prog 59 #[.string word,.int .i64 e] w fun x w'=>∃v c,x = .returned (.tuple #[v,.int .i64 c])∧zYz w w' word.data.toList e v c):=New_any word e w hon.tabs hm;have HON:Hid (WkOn w wb l):=hon;clear hon;go_enter Tryz.func32,Tryz.ntmps32;go_upto_region 2 with(go_at_call 59;refine HNEW.out.mono ?_;rintro x w1 ⟨v,c,rfl,hb1,hcase⟩)
 rcases hcase with⟨hr,rfl,rfl⟩|⟨hr,rfl,p,xs,d,rfl,hp,hx,hd,hl1⟩
 · have HR:Hid (AllSays w w1 l word.data.toList e (.slice none 0 0) 110):=⟨hb1,.inl ⟨hr,rfl,rfl⟩⟩
   clear hr hb1;go_wp2;go_ret2;exact⟨_,_,rfl,HR.out⟩
 · have HRT:Hid (∀v w',Below w.heap.size w w'→GOwn 52 3 w.heap.size w' v ((zDh xs d l).map cellsM)→AllSays w w' l word.data.toList e v 0):=fun v w' g1 g2=>⟨g1,.inr ⟨hr,rfl,xs,d,hx,hd,hl1.len,hl1.few,g2⟩⟩
   have HL1:Hid (LevAt w1 p xs d):=hl1;have HB1:Hid (Below w.heap.size w w1):=hb1;have hon1:=HON.out.below hb1;have HON1:Hid (WkOn w1 wb l):=hon1;obtain⟨D,hMW,hI,hWk⟩:=hon1.at';have hfew:=(zAp hon1.ok).2.2;obtain⟨b,hbe⟩:∃b,(zAf l).2=b:=⟨_,rfl⟩;obtain⟨base,hbase⟩:∃base,(zAf l).1=base:=⟨_,rfl⟩;rw[hbe,hbase]at hMW hWk;rw[hbe]at hI;have HMW:Hid (l≠[]→MW l base b D):=hMW;have HI:Hid (Fm.Inv D b):=hI;have HBE:Hid ((zAf l).2=b):=hbe;obtain⟨bl,hbl⟩:∃bl,b.length=bl:=⟨_,rfl⟩;have HRO:Hid (∀V,Below w1.heap.size w1 V→Calls Tryz.prog 61 #[.pointer (some ⟨wb,0,none⟩)] V fun e w'=>e = .returned (.int .i64 ((bl:Int)-1))∧w'=V):=fun V hV=>by
    have:=zHs _ V wb base _ _ (hWk.below hV);rw[List.length_map,hbl]at this;exact this
   (have HBA:Hid (∀V,Below w1.heap.size w1 V→Calls Tryz.prog 62 #[.pointer (some ⟨wb,0,none⟩)] V fun e w'=>e = .returned (.int .i64 base)∧w'=V):=fun V hV=>Base_any _ V wb base _ _ (hWk.below hV));have HSA:Hid (∀V,Below w1.heap.size w1 V→Calls Tryz.prog 63 #[.pointer (some ⟨p,0,none⟩)] V fun e w'=>e = .returned (rV (rowL xs d []))∧Below V.heap.size V w'):=fun V hV=>by
    have:=zYt p xs d V (HL1.out.below hV);rw[zUs]at this;exact this
   obtain⟨sb,hsb⟩:∃sb,w1.heap.size=sb:=⟨_,rfl⟩;obtain⟨W2,hW2⟩:∃W2,w1.alloc (.cells #[.pointer (some ⟨wb,0,none⟩),.pointer (some ⟨p,0,none⟩),.slice none 0 0,.slice none 0 0] 130)=W2:=⟨_,rfl⟩;(have hb2:Below w1.heap.size w1 W2:=by rw[←hW2];exact(Below.refl _ w1).alloc (Nat.le_refl _) _);have hs2:SrAt (fun _=>True) w1.heap.size W2 sb wb p xs d (.slice none 0 0) (.slice none 0 0) [] [] []:=⟨trivial,by omega,by rw[←hW2,←hsb];exact zBm _ _,GOwn.nil _ _ _ _,fun g hg=>(by cases hg),GOwn.nil _ _ _ _,fun g hg=>(by cases hg),rfl,fun j c i hc _=>(by simp at hc)⟩;have HB2:Hid (Below w1.heap.size w1 W2):=hb2;have HS2:Hid (SrAt (fun _=>True) w1.heap.size W2 sb wb p xs d (.slice none 0 0) (.slice none 0 0) [] [] []):=hs2;have HVIS:Hid (∀V,Below W2.heap.size W2 V→Calls Tryz.prog 60 #[.pointer (some ⟨sb,0,none⟩),.int .i64 ((bl:Int)-1),.string { data:=#[] },.int .i64 base,rV (rowL xs d [])] V fun x V'=>(∃v,x = .returned v)∧∃its fs tv fv cls,ALp w1 w1.heap.size sb wb p xs d base D b l its fs tv fv cls V'):=fun V hV=>by
    have hbV:Below w1.heap.size w1 V:=HB2.out.trans (hV.mono HB2.out.size);have hsV:=HS2.out.below hV;by_cases hl0:l=[]
    · have hb0:b=[]:=by rw[←HBE.out,hl0];rfl
      (have hbl0:bl=0:=by rw[←hbl,hb0];rfl);rw[hbl0,←zMk,show((0:Nat):Int)-1 = -1 from rfl];refine(zFe w1 w1.heap.size V sb wb p xs d _ _ [] [] [] (-1) ⟨false,0,[]⟩ [] base (Nat.le_refl _) hbV HL1.out hsV (zSl HON1.out) (fun h=>by cases h) (by simp) (by simp)).mono ?_;rintro x V' ⟨hv,tv',fv',cls',h1,h2⟩;refine⟨hv,_,_,tv',fv',cls',h1,hbV.trans (h2.below hbV.size fun k hk=>SrF.lo hsV hk),fun i hi=>?_,?_,?_⟩
      · simp[push]at hi
      · rw[hl0];rfl
      · simp[push,stE,udF,hits]
    · obtain⟨M⟩:Nonempty (MW l base b D):=⟨HMW.out hl0⟩
      have hbp:=List.length_pos_iff.2 M.ne;obtain⟨s,hs⟩:∃s,b[b.length-1]?=some s:=⟨_,List.getElem?_eq_getElem (by omega)⟩;have hroot:exp D s=zAd (ents l):=Option.some.inj ((HI.out.row _ s hs).1.symm.trans M.root);(have htl:Tells base [] base (exp D s):=by rw[hroot];exact M.tells);(have hcast:(bl:Int)-1=((b.length-1:Nat):Int):=by omega);obtain⟨g1,g2,g3⟩:=zQf HI.out M.rst hs HL1.out.len htl (d:=d) [];(have hent:hits xs d (ud [] base (exp D s))=zDh xs d l:=by rw[hroot,M.top];exact zW6 (zB0 HON1.out.ok).wd xs d);have hlen:(exp D s).length=l.length:=by
       have:=congrArg List.length M.top;rw[zHv]at this;rw[hroot,this];simp[ents]
      have hw:s.final=true→0≤base∧0≤s.out∧base+s.out≤1048576:=fun hfin=>by
       have h2:=htl.wt ([],s.out) (zRt hfin);have h3:=M.rst.nn _ (List.mem_of_getElem? M.root) ([],s.out) (by rw[←hroot];exact zRt hfin);have h4:=M.rst.lo;simp only at h2 h3;omega
      have hsm:=zN3 HI.out M.rst hs;rw[hcast,←zMk];refine(zFe w1 w1.heap.size V sb wb p xs d _ _ [] [] [] _ s [] base (Nat.le_refl _) hbV HL1.out hsV (zJk HON1.out (by rw[HBE.out];exact hs)) hw (by simp) (by simp;omega)).mono ?_;rintro x V' ⟨hv,tv',fv',cls',h1,h2⟩;refine⟨hv,_,_,tv',fv',cls',h1,hbV.trans (h2.below hbV.size fun k hk=>SrF.lo hsV hk),g1,?_,?_⟩
      · simp only[List.nil_append]at g2 ⊢
        rw[g2,hent];simp[stE,hits]
      · simp only[List.nil_append]at g3 ⊢
        rw[hlen]at g3;have h0:(stE D []).length=0:=rfl;omega
   have HSB:Hid (w1.heap.size=sb):=hsb;have HW2:Hid (w1.alloc (.cells #[.pointer (some ⟨wb,0,none⟩),.pointer (some ⟨p,0,none⟩),.slice none 0 0,.slice none 0 0] 130)=W2):=hW2;clear hr hp hx hd hl1 hb1 hon1 hMW hI hWk hbe hbase hbl hsb hW2 hb2 hs2;(go_upto_region 5 with fail);rw[HW2.out,HSB.out];clear HW2 HSB
   go_wp2_with (first
    |(go_at_call 61;refine(HRO.out _ HB2.out).mono ?_;rintro x wr ⟨rfl,hwr⟩;rw[hwr];clear hwr wr)
    |(go_at_call 62;refine(HBA.out _ HB2.out).mono ?_;rintro x wr ⟨rfl,hwr⟩;rw[hwr];clear hwr wr)
    |(go_at_call 63;refine(HSA.out _ HB2.out).mono ?_;rintro x w3 ⟨rfl,hb3⟩)
    |(go_at_call 60;refine(HVIS.out _ hb3).mono ?_;rintro x w4 ⟨⟨v,rfl⟩,its0,fs0,tv0,fv0,cls0,hA0⟩))
   have HA0:Hid (ALp w1 w1.heap.size sb wb p xs d base D b l its0 fs0 tv0 fv0 cls0 w4):=hA0;clear hA0 hb3;obtain⟨M,hM⟩:∃M,stM D its0=M:=⟨_,rfl⟩
   go_loopg [11,12] M (fun gm _ _ wr=>∃its fs tv fv cls,stM D its≤gm∧Hid (ALp w1 w1.heap.size sb wb p xs d base D b l its fs tv fv cls wr))
   case atStart=>exact⟨its0,fs0,tv0,fv0,cls0,by omega,HA0⟩
   case round=>
    obtain⟨its,fs,tv,fv,cls,hgm,HA⟩:=hrel;have hlen:=HA.out.sr.len;obtain⟨td,tc,htv,_⟩:=GOwn.shape HA.out.sr.todo
    rw[List.length_map]at htv;obtain⟨y0,y1,y2,y3,yf⟩:=HA.out.sr.facts;have hf2:=yf 2;by_cases hz:its.length=0
    · have hits0:its=[]:=List.length_eq_zero_iff.1 hz
      (have hcl:cls.length=0:=by omega);rw[hcl]at htv;rw[htv]at y2;obtain⟨fd,fc,hfv,_⟩:=GOwn.shape HA.out.sr.found;rw[List.length_map]at hfv;have HFIN:Hid (AllSays w wr l word.data.toList e fv 0):=by
       refine HRT.out fv wr (HB1.out.trans (HA.out.bel.mono HB1.out.size)) ?_;have h1:=HA.out.hit;rw[hits0]at h1;(have h2:fs=zDh xs d l:=by rw[←h1];simp[stE,hits]);rw[←h2];exact GOwn.mono HA.out.sr.found HB1.out.size
      obtain⟨fl,hfl⟩:∃fl,fs.length=fl:=⟨_,rfl⟩;rw[hfl]at hfv;rw[hfv]at y3 HFIN;clear hgm hlen HA y0 y1 yf hf2 hz hits0 hcl htv hfv hfl;go_wp2;go_ret2;exact⟨_,_,rfl,HFIN.out⟩
    · obtain⟨n,hn⟩:∃n,its.length=n+1:=⟨its.length-1,by omega⟩
      obtain⟨its',i,rfl⟩:=zUw hn;obtain⟨cls',c,rfl⟩:=zUw (n:=n) (l:=cls) (by omega);(have hnl:its'.length=n:=by simpa using hn);(have hcn:cls'.length=n:=by simp at hlen hn;omega);obtain⟨g,cap,hv,hcap,hcell,hclo,hpop,hupop⟩:=HA.out.sr.pop;obtain⟨q0,q1,q2,q3,q4,rfl,_,p0,p1,p2,p3,p4⟩:=hclo.ex;rw[hcn]at hv hcap hcell hpop hupop;rw[hv]at y2;obtain⟨m1,hm1⟩:∃m1,n+1=m1:=⟨_,rfl⟩;rw[hm1]at y2 hcap;obtain⟨W6,hW6⟩:∃W6,wr.setCell ⟨sb,2,none⟩ (.slice (some ⟨g,0,none⟩) n cap)=W6:=⟨_,rfl⟩;rw[hW6]at hpop hupop;have hok:=HA.out.ok i (by simp);have hlne:l≠[]:=fun h0=>by
       have h1:=hok.tol;rw[←HBE.out,h0]at h1;exact absurd h1 (by show ¬i.to<0;omega)
      have MM:=HMW.out hlne;obtain⟨s,hs⟩:∃s,b[i.to]?=some s:=⟨_,List.getElem?_eq_getElem hok.tol⟩;(have hDi:D[i.to]?.getD []=exp D s:=by rw[(HI.out.row _ s hs).1];rfl);obtain⟨k1,k2,k3⟩:=zQf HI.out MM.rst hs HL1.out.len (by rw[←hDi];exact hok.tl) (d:=d) its';have hits':=HA.out.hit;rw[zQn,zCt]at hits';have hfew':=HA.out.few;rw[zQn,List.length_append]at hfew';(have hitE:itE D i=ud (i.head++[i.lab]) (i.wt+i.out) (exp D s):=by unfold itE;rw[hDi]);rw[hitE]at hits' hfew';rw[zHv]at hfew';(have hlt1:its'.length≤(stE D its').length:=zQm MM.rst.ne fun j hj=>by rw[HI.out.len];exact(HA.out.ok j (by simp[hj])).tol);have hsm:=zN3 HI.out MM.rst hs;have hmeas:=zVd HI.out hs xs d (i.head++[i.lab]) (i.wt+i.out);have hS0:S0c q0 q1 q2 q3 q4 sb i.lab i.out i.to (zAw i.head) i.wt (rowL xs d (i.head++[i.lab])) W6:=S0c.sfe ⟨p0,p1,p2,p3,p4⟩ (HA.out.sr.sfe hupop);have hb6:Below w1.heap.size w1 W6:=HA.out.bel.trans (hupop.below HA.out.bel.size fun k hk=>SrF.lo HA.out.sr hk);have HCLO:Hid (Calls Tryz.prog 96 #[.pointer (some ⟨q0,0,none⟩),.pointer (some ⟨q1,0,none⟩),.pointer (some ⟨q2,0,none⟩),.pointer (some ⟨q3,0,none⟩),.pointer (some ⟨q4,0,none⟩)] W6 fun x V'=>(∃v,x = .returned v)∧∃its fs tv fv cls,Fz.stM D its<gk∧ALp w1 w1.heap.size sb wb p xs d base D b l its fs tv fv cls V'):=by
       refine(clo_any w1 w1.heap.size W6 sb wb p xs d _ _ cls' its' fs s i q0 q1 q2 q3 q4 HI.out MM.rst hs (Nat.le_refl _) hb6 HON1.out.tabs HL1.out hpop (zJk HON1.out (by rw[HBE.out];exact hs)) hok hS0 (by omega) (by omega)).mono ?_;rintro x V' ⟨hv,tv',fv',cls2,h1,h2⟩;refine⟨hv,_,_,tv',fv',cls2,?_,h1,hb6.trans (h2.below hb6.size fun k hk=>SrF.lo hpop hk),fun j hj=>?_,?_,?_⟩
       · rw[zJl]
         (have h3:stM D (its'++[i])=stM D its'+itM D i:=by rw[zJl];simp[Fz.stM]);rw[h3]at hgm;have h4:itM D i=wgt (D[i.to]?.getD []):=rfl;omega
       · rcases List.mem_append.1 hj with hj|hj
         · exact HA.out.ok j (by simp[hj])
         · exact k1 j hj
       · rw[List.append_assoc,k2,hits']
       · rw[List.length_append]
         omega
      (have hw1:IntKind.i64.wrap ((m1:Int)-1)=(n:Int):=by rw[IntKind.wrap_i64];omega);(have hpos:(0:Int)<(m1:Int):=by omega);(have hnm:(n:Int)<(m1:Int):=by omega);(have hnc:(n:Int)≤(cap:Int):=by omega);have HW6:Hid (wr.setCell ⟨sb,2,none⟩ (.slice (some ⟨g,0,none⟩) n cap)=W6):=hW6;clear hgm hlen HA y0 y1 y3 yf hz hn hnl hcn hv hclo hpop hupop p0 p1 p2 p3 p4 hok hlne MM hs hDi k1 k2 k3 hits' hfew' hitE hlt1 hsm hmeas hS0 hb6 hW6 htv hm1;go_wp2_with (go_at_call 96;rw[HW6.out];refine HCLO.out.mono ?_;rintro x V' ⟨⟨v,rfl⟩,its2,fs2,tv2,fv2,cls2,hlt,hA2⟩);go_roundg (stM D its2);(case measure=>omega);case rel=>exact⟨its2,fs2,tv2,fv2,cls2,Nat.le_refl _,hA2⟩
