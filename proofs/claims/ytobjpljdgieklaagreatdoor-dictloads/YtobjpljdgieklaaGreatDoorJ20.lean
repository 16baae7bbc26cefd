import Derived.Shelf.Spec.SlicesGrow
import Derived.Test.YtobjpljdgieklaaGreatDoorJ7
import Derived.Test.YtobjpljdgieklaaGreatDoorJ17
set_option maxRecDepth 100000
set_option maxHeartbeats 8000000
namespace Go.Proofs.YtobjpljdgieklaaGreatDoor
section
open Go.RowKit Go.Shelf Go.Lib Go.Sort Pm
shelf_lay_g Lays8.n4 Nm8 4 at Tryz 164 as growPr
theorem zMu(n:Nat)(hn:n<2199023255552)(w:World):Calls Tryz.prog 164 #[.slice none 0 0,.int .i64 n] w fun e w'=>∃v,e = .returned v∧POwn w.heap.size w' v []∧Below w.heap.size w w':=by
 obtain⟨i0,hi,hz0,hz1,hz2⟩:=info_parts zVz;rcases Nat.eq_zero_or_pos n with rfl|h0
 · refine(Any8.slices_Grow_room growPr none 0 0 0 w (Nat.le_refl _) (by omega) (by omega) (by omega)).mono ?_
   rintro e w' ⟨rfl,rfl⟩;exact⟨_,rfl,POwn.nil _ _,Below.refl _ _⟩
 · refine(Any8.slices_Grow_grow growPr i0 _ hi hz0 (by rw[hz1];decide) none 0 0 n [] w (Nat.le_refl _) (by omega) (by rw[hz2];omega) (by omega) (by simp) (fun _=>rfl) (fun a h=>by cases h)).mono ?_
   rintro e w' ⟨rfl,rfl⟩;refine⟨_,rfl,⟨rfl,.inr ⟨_,_,_,rfl,Nat.le_refl _,zAb _ _,Nat.zero_le _,?_,?_,rfl⟩⟩,((Below.refl _ w).drew).alloc (Nat.le_refl _) _⟩
   · exact grownCap_le_maxLen w (0+n) 0 _ (by unfold maxLen;omega)
   · have hge:n≤grownCap w n 0 (growPr_ren.t 25):=grownCap_ge w n 0 _
     simp[Builtin.zeroCells,Value.cells];omega
theorem zPm(w:World)(vb c:Nat)(s1:Value)(xs:List Pr)(h1:PRow w s1 xs)(hx:xs.length<549755813888)(hvb:vb<w.heap.size)(c0:w.cell? ⟨vb,0,none⟩=some s1):
 Calls Tryz.prog 134 #[.slice (some ⟨vb,0,none⟩) 1 c] w fun e w'=>∃v,e = .returned v∧POwn w.heap.size w' v xs∧Below w.heap.size w w':=by
 obtain⟨a1,cp1,rfl⟩:=h1.form;have H1:Hid (PRow w (.slice a1 xs.length cp1) xs):=h1;obtain⟨n1,hn1⟩:∃n1,xs.length=n1:=⟨_,rfl⟩;have HN1:Hid (xs.length=n1):=hn1;have hp1:¬((n1:Int)<0):=by omega
 have hn1b:n1<2199023255552:=by omega
 rw[hn1]at c0 H1;clear h1 hn1;go_enter Tryz.func134,Tryz.ntmps134;go_wp2;refine wp_loop_rounds 2 ?_;rw[rounds_succ];go_wp2;rw[rounds_succ];go_wp2_with (go_at_call 164;refine(zMu n1 hn1b _).mono ?_;rintro e w1 ⟨v,rfl,hr1,hB1⟩);have HR1:Hid (POwn w.heap.size w1 v []):=hr1;have HB1:Hid (Below w.heap.size w w1):=hB1;have d0:=(hB1.cell (p:=⟨vb,0,none⟩) hvb).trans c0;clear hr1 hB1;refine wp_loop_rounds 2 ?_;rw[rounds_succ];go_wp2_with (at_builtin;refine zF2 (by rfl) _ _ rfl w.heap.size _ _ [] xs rfl HR1.out rfl (H1.out.below HB1.out) (by have:=HN1.out;simp;omega) HB1.out.size ?_);intro v2 w2 hr2 hb2 _;have HR2:Hid (POwn w.heap.size w2 v2 xs):=hr2;have HB2:Hid (Below w.heap.size w w2):=HB1.out.trans hb2;clear hr2 hb2 d0;go_wp2_with fail;rw[rounds_succ];go_wp2_with fail;go_ret;exact⟨v2,rfl,HR2.out,HB2.out⟩
theorem zPl(w:World)(vb c:Nat)(s1 s2:Value)(xs ys:List Pr)(h1:PRow w s1 xs)(h2:PRow w s2 ys)(hx:xs.length<549755813888)(hy:ys.length<549755813888)(hvb:vb<w.heap.size)
 (c0:w.cell? ⟨vb,0,none⟩=some s1) (c1:w.cell? ⟨vb,1,none⟩=some s2):
 Calls Tryz.prog 134 #[.slice (some ⟨vb,0,none⟩) 2 c] w fun e w'=>∃v,e = .returned v∧POwn w.heap.size w' v (xs++ys)∧Below w.heap.size w w':=by
 obtain⟨a1,cp1,rfl⟩:=h1.form;obtain⟨a2,cp2,rfl⟩:=h2.form;have H1:Hid (PRow w (.slice a1 xs.length cp1) xs):=h1;have H2:Hid (PRow w (.slice a2 ys.length cp2) ys):=h2;obtain⟨n1,hn1⟩:∃n1,xs.length=n1:=⟨_,rfl⟩;obtain⟨n2,hn2⟩:∃n2,ys.length=n2:=⟨_,rfl⟩;obtain⟨n3,hn3⟩:∃n3,n1+n2=n3:=⟨_,rfl⟩;have HN1:Hid (xs.length=n1):=hn1;have HN2:Hid (ys.length=n2):=hn2;have hsum:(n1:Int)+(n2:Int)=(n3:Int):=by omega
 have hp1:¬((n1:Int)<0):=by omega
 have hp3:¬((n3:Int)<0):=by omega
 have hn3b:n3<2199023255552:=by omega
 rw[hn1]at c0 H1;rw[hn2]at c1 H2;clear h1 h2 hn1 hn2;go_enter Tryz.func134,Tryz.ntmps134;go_wp2;refine wp_loop_rounds 3 ?_;rw[rounds_succ];go_wp2;rw[rounds_succ];go_wp2;rw[rounds_succ];go_wp2_with (go_at_call 164;refine(zMu n3 hn3b _).mono ?_;rintro e w1 ⟨v,rfl,hr1,hB1⟩);have HR1:Hid (POwn w.heap.size w1 v []):=hr1;have HB1:Hid (Below w.heap.size w w1):=hB1;have d0:=(hB1.cell (p:=⟨vb,0,none⟩) hvb).trans c0;clear hr1 hB1;refine wp_loop_rounds 3 ?_;rw[rounds_succ];go_wp2_with (at_builtin;refine zF2 (by rfl) _ _ rfl w.heap.size _ _ [] xs rfl HR1.out rfl (H1.out.below HB1.out) (by have:=HN1.out;simp;omega) HB1.out.size ?_);intro v2 w2 hr2 hb2 _;have HR2:Hid (POwn w.heap.size w2 v2 xs):=hr2;have HB2:Hid (Below w.heap.size w w2):=HB1.out.trans hb2;have d1:=(HB2.out.cell (p:=⟨vb,1,none⟩) hvb).trans c1;clear hr2 hb2 d0;go_wp2_with fail;rw[rounds_succ];go_wp2_with (at_builtin;refine zF2 (by rfl) _ _ rfl w.heap.size _ _ xs ys rfl HR2.out rfl (H2.out.below HB2.out) (by have:=HN1.out;have:=HN2.out;omega) HB2.out.size ?_);intro v3 w3 hr3 hb3 _;have HR3:Hid (POwn w.heap.size w3 v3 (xs++ys)):=hr3;have HB3:Hid (Below w.heap.size w w3):=HB2.out.trans hb3;clear hr3 hb3 d1;go_wp2_with fail;rw[rounds_succ];go_wp2_with fail;go_ret;exact⟨v3,rfl,HR3.out,HB3.out⟩
theorem zSi{x y:Pr}(r:List Pr)(h:y.1=x.1):zCc (x::y::r)=zCc (y::r):=by rw[zCc,if_pos h]
theorem zVm{x y:Pr}(r:List Pr)(h:¬y.1=x.1):zCc (x::y::r)=x::zCc (y::r):=by rw[zCc,if_neg h]
theorem zIr(w:World)(v:Value)(l:List Pr)(h:PRow w v l)(hl:l.length<549755813888):
 Calls Tryz.prog 137 #[v] w fun e w'=>∃v',e = .returned v'∧POwn w.heap.size w' v' (zCc l)∧Below w.heap.size w w':=by
 obtain⟨ad,cap,rfl⟩:∃ad cap,v = .slice ad l.length cap:=by obtain⟨ad,cap,rfl,_⟩:=h;exact⟨ad,cap,rfl⟩
 have HR:Hid (PRow w (.slice ad l.length cap) l):=h;obtain⟨n,hn⟩:∃n,l.length=n:=⟨_,rfl⟩;have HN:Hid (l.length=n):=hn;rw[hn]at HR hl;clear h;rw[hn];clear hn;go_enter Tryz.func137,Tryz.ntmps137;go_wp2
 go_loopg [3,4,5,8] n (fun g s3 _ _ s8 wr=>∃(k:Nat) (acc:List Pr),s8 = .int .i64 k∧k≤n∧n-k≤g∧Hid (POwn w.heap.size wr s3 acc)∧Hid (Below w.heap.size w wr)∧Hid (acc.length≤k)∧Hid (acc++zCc (l.drop k)=zCc l))
 case atStart=>exact⟨0,[],rfl,Nat.zero_le _,by omega,POwn.nil _ _,Below.refl _ _,Nat.le_refl _,by show _=_;simp⟩
 case round=>
  obtain⟨k,acc,rfl,hk,hg,HO,HB,HACC,HE⟩:=hrel;by_cases hlt:k<n
  · have hltz:(k:Int)<(n:Int):=by omega
    obtain⟨x,hx⟩:∃x,l[k]?=some x:=⟨l[k]'(by have:=HN.out;omega),List.getElem?_eq_getElem _⟩;obtain⟨b,off,rfl,hb,hcell⟩:=(HR.out.below HB.out).at (by omega);obtain⟨c0,c1⟩:=hcell k x hx;have HX:Hid (l[k]?=some x):=hx;have HD:Hid (l.drop k=x::l.drop (k+1)):=zE8 l k x hx;(have rk1:IntKind.i64.wrap ((k:Int)+1)=(k:Int)+1:=by rw[IntKind.wrap_i64];omega);by_cases hend:k+1=n
    · have hendz:((k:Int)+1==(n:Int))=true:=beq_iff_eq.2 (by omega)
      have HE2:Hid (acc++[x]++zCc (l.drop (k+1))=zCc l):=by
       show _=_;rw[←HE.out,HD.out,List.drop_eq_nil_of_le (by have:=HN.out;omega)];simp[zCc]
      clear hcell hx;go_wp2_with fail;go_quiet (fail);(have hWn:∀o:Obj,((wr.alloc o).drewN nq).heap.size=wr.heap.size+1:=fun o=>by simp);(have HWo:Hid (∀o:Obj,POwn w.heap.size ((wr.alloc o).drewN nq) u3 acc∧Below w.heap.size w ((wr.alloc o).drewN nq)):=fun o=>⟨HO.out.below (belowN ((Below.refl _ wr).alloc (Nat.le_refl _) _) nq),belowN (HB.out.alloc (by have:=HB.out.size;omega) _) nq⟩);go_wp2_with (at_builtin;refine zRe (by rfl) _ _ x _ rfl w.heap.size _ _ _ acc rfl (HWo.out _).1 rfl (hWn _).symm (by have:=HACC.out;omega) (HWo.out _).2.size ?_);intro v2 w2 hr2 hb2;have HR2:Hid (POwn w.heap.size w2 v2 (acc++[x])):=hr2;have HB2:Hid (Below w.heap.size w w2):=(HWo.out _).2.trans hb2;clear hr2 hb2;go_wp2_with fail;go_roundg (n-(k+1));(case measure=>omega);case rel=>exact⟨k+1,acc++[x],by go_num,by omega,Nat.le_refl _,HR2,HB2,by have:=HACC.out;show _≤_;simp;omega,HE2⟩
    · have hendz:((k:Int)+1==(n:Int))=false:=beq_eq_false_iff_ne.2 (by omega)
      obtain⟨y,hy⟩:∃y,l[k+1]?=some y:=⟨l[k+1]'(by have:=HN.out;omega),List.getElem?_eq_getElem _⟩;have HD2:Hid (l.drop (k+1)=y::l.drop (k+1+1)):=zE8 l (k+1) y hy;obtain⟨d0,d1⟩:=hcell (k+1) y hy;(have p1:(0:Int)≤(k:Int)+1:=by omega);(have b1:(k:Int)+1<(n:Int):=by omega);(have e1:((k:Int)+1).toNat=k+1:=by omega);clear hcell hx hy;by_cases hyx:y.1=x.1
      · have hs:(y.1.toList==x.1.toList)=true:=by rw[zRv];exact decide_eq_true hyx
        have HE2:Hid (acc++zCc (l.drop (k+1))=zCc l):=by
         show _=_;rw[←HE.out,HD.out,HD2.out,zSi _ hyx]
        clear hyx;go_wp2_with fail;go_quiet (fail);go_wp2_with fail;go_roundg (n-(k+1));(case measure=>omega);case rel=>exact⟨k+1,acc,by go_num,by omega,Nat.le_refl _,HO.out.below (belowN ((Below.refl _ wr).alloc (Nat.le_refl _) _) _),belowN (HB.out.alloc (by have:=HB.out.size;omega) _) _,by have:=HACC.out;show _≤_;omega,HE2⟩
      · have hs:(y.1.toList==x.1.toList)=false:=by rw[zRv];exact decide_eq_false hyx
        have HE2:Hid (acc++[x]++zCc (l.drop (k+1))=zCc l):=by
         show _=_;rw[←HE.out,HD.out,HD2.out,zVm _ hyx];simp
        clear hyx;go_wp2_with fail;go_quiet (fail);(have hWn:∀o:Obj,((wr.alloc o).drewN nq).heap.size=wr.heap.size+1:=fun o=>by simp);(have HWo:Hid (∀o:Obj,POwn w.heap.size ((wr.alloc o).drewN nq) u3 acc∧Below w.heap.size w ((wr.alloc o).drewN nq)):=fun o=>⟨HO.out.below (belowN ((Below.refl _ wr).alloc (Nat.le_refl _) _) nq),belowN (HB.out.alloc (by have:=HB.out.size;omega) _) nq⟩);go_wp2_with (at_builtin;refine zRe (by rfl) _ _ x _ rfl w.heap.size _ _ _ acc rfl (HWo.out _).1 rfl (hWn _).symm (by have:=HACC.out;omega) (HWo.out _).2.size ?_);intro v2 w2 hr2 hb2;have HR2:Hid (POwn w.heap.size w2 v2 (acc++[x])):=hr2;have HB2:Hid (Below w.heap.size w w2):=(HWo.out _).2.trans hb2;clear hr2 hb2;go_wp2_with fail;go_roundg (n-(k+1));(case measure=>omega);case rel=>exact⟨k+1,acc++[x],by go_num,by omega,Nat.le_refl _,HR2,HB2,by have:=HACC.out;show _≤_;simp;omega,HE2⟩
  · have hltz:¬(k:Int)<(n:Int):=by omega
    have HE2:Hid (acc=zCc l):=by
     show _=_;rw[←HE.out,List.drop_eq_nil_of_le (by have:=HN.out;omega)];simp[zCc]
    go_wp2_with fail;go_ret;exact⟨_,rfl,HE2.out▸HO.out,HB.out⟩
theorem zK1(w:World):Calls Tryz.prog 180 #[.slice none 0 0,.int .i64 0,.int .i64 0,.func (.func 136) #[] #[]] w fun e w'=>e = .returned (.tuple #[])∧w'=w:=by
 go_enter Tryz.func180,Tryz.ntmps180;go_wp2;refine wp_loop_rounds 1 ?_;rw[rounds_succ];go_wp2
 go_end0
 exact⟨rfl,rfl⟩
theorem zRy(w:World):Calls Tryz.prog 165 #[.slice none 0 0,.int .i64 0,.func (.func 136) #[] #[]] w fun e w'=>e = .returned (.tuple #[])∧w'=w:=by
 go_enter Tryz.func165,Tryz.ntmps165;go_wp2;refine wp_loop_rounds 1 ?_;rw[rounds_succ];go_wp2_with (go_at_call 180;refine(zK1 _).mono ?_;rintro e w2 ⟨rfl,rfl⟩);refine wp_loop_rounds 1 ?_;rw[rounds_succ];go_wp2
 go_end0
 exact⟨rfl,rfl⟩
theorem zIn(w:World):Calls Tryz.prog 135 #[.slice none 0 0,.func (.func 136) #[] #[]] w fun e w'=>e = .returned (.tuple #[])∧w'=w:=by
 go_enter Tryz.func135,Tryz.ntmps135;go_wp2_with (go_at_call 165;refine(zRy _).mono ?_;rintro e w2 ⟨rfl,rfl⟩)
 go_end0
 exact⟨rfl,rfl⟩
theorem sort_own{B:Nat}{w:World}{v:Value}{l:List Pr}(h:POwn B w v l)(hl:l.length<1125899906842624)(hB:B≤w.heap.size):
 Calls Tryz.prog 135 #[v,.func (.func 136) #[] #[]] w fun e w'=>e = .returned (.tuple #[])∧∃l',Stably zAa l l'∧POwn B w' v l'∧Below B w w':=by
 have h':=h;obtain⟨_,⟨e,h0⟩|⟨g,cap,cur,rfl,h1,hh,h3,h4,h5,h6⟩⟩:=h
 · have hl0:l=[]:=List.eq_nil_of_length_eq_zero h0
   subst hl0;subst e;refine(zIn w).mono ?_;rintro e w' ⟨rfl,rfl⟩;exact⟨rfl,[],⟨List.Pairwise.nil,fun _=>rfl⟩,h',Below.refl _ _⟩
 · obtain⟨R,S,hBg⟩:=RowP.of_own h' hl
   refine(sortStable_any g 0 l.length cap w w R hl l S rfl).mono ?_;rintro e w' ⟨rfl,l',hs,hS⟩;have hlen:=hs.len;have ho:=h'.sorted hl hS hlen;rw[hlen]at ho;exact⟨rfl,l',hs,ho,SWK.below hS hBg hB⟩
theorem inOrder_any(w:World)(vb n c:Nat)(l:List Pr)(hl:l.length<549755813888)
 (hc:Calls Tryz.prog 134 #[.slice (some ⟨vb,0,none⟩) n c] w fun e w'=>∃v,e = .returned v∧POwn w.heap.size w' v l∧Below w.heap.size w w'):
 Calls Tryz.prog 96 #[.slice (some ⟨vb,0,none⟩) n c] w fun e w'=>∃v,e = .returned v∧POwn w.heap.size w' v (norm zAa l)∧Below w.heap.size w w':=by
 go_enter Tryz.func96,Tryz.ntmps96;go_wp2_with (go_at_call 134;refine hc.mono ?_;rintro e w1 ⟨v1,rfl,ho1,hb1⟩);have H1:Hid (POwn w.heap.size w1 v1 l∧Below w.heap.size w w1):=⟨ho1,hb1⟩;clear hc ho1 hb1;go_wp2_with (go_at_call 135;refine(sort_own H1.out.1 (by omega) H1.out.2.size).mono ?_;rintro e w2 ⟨rfl,l',hs,ho2,hb2⟩);have H2:Hid (Stably zAa l l'∧POwn w.heap.size w2 v1 l'∧Below w.heap.size w w2):=⟨hs,ho2,H1.out.2.trans hb2⟩;clear hs ho2 hb2;go_wp2_with (go_at_call 137;refine(zIr w2 v1 l' H2.out.2.1.row (by have:=H2.out.1.len;omega)).mono ?_;rintro e w3 ⟨v3,rfl,ho3,hb3⟩);go_ret;have e1:=zIq lessB_sto H2.out.1;rw[e1]at ho3;exact⟨v3,rfl,ho3.mono H2.out.2.2.size,H2.out.2.2.trans (hb3.mono H2.out.2.2.size)⟩
theorem zRj(w:World)(v:Value)(l:List Pr)(h:PRow w v l)(hl:l.length<549755813888):
 Calls Tryz.prog 77 #[v] w fun e w'=>∃v',e = .returned v'∧POwn w.heap.size w' v' (norm zAa l)∧Below w.heap.size w w':=by
 obtain⟨ad,cap,rfl⟩:=h.form;have hc:=fun o=>(⟨h.below ((Below.refl _ w).alloc (Nat.le_refl _) o),(Below.refl _ w).alloc (Nat.le_refl _) o⟩:PRow (w.alloc o) (.slice ad l.length cap) l∧Below w.heap.size w (w.alloc o))
 have HC:Hid _:=hc;clear hc h;go_enter Tryz.func77,Tryz.ntmps77;go_wp2_with (go_at_call 96;refine(inOrder_any _ _ _ _ l hl (zPm _ _ _ _ l (HC.out _).1 hl (by simp) (by simp))).mono ?_;rintro e w1 ⟨v1,rfl,ho1,hb1⟩);go_ret;exact⟨v1,rfl,ho1.mono (HC.out _).2.size,(HC.out _).2.trans (hb1.mono (HC.out _).2.size)⟩
theorem zDn{g:Nat}{T:TypeId}{f:Nat×Nat}:∀(vs:List Value) (o:Nat) (w:World) (cur:Array Value),w.heap[g]?=some (.cells cur T f)→∃cur',cur'.size=cur.size∧(w.setCells g o vs).heap[g]?=some (.cells cur' T f)
 |[],_,_,cur,h=>⟨cur,rfl,h⟩
 |v::r,o,w,cur,h=>by
  have h2:(w.setCell ⟨g,o,none⟩ v).heap[g]?=some (.cells (cur.setIfInBounds o v) T f):=by simp[World.setCell,Array.getElem?_modify,h]
  obtain⟨cur',h3,h4⟩:=zDn r (o+1) _ _ h2;exact⟨cur',by rw[h3];simp,h4⟩
theorem zC5{g B:Nat}(hB:B≤g):∀(vs:List Value) (o:Nat) (a w:World),Below B a w→Below B a (w.setCells g o vs)
 |[],_,_,_,h=>h
 |v::r,o,a,_,h=>zC5 hB r (o+1) a _ (h.setCell (p:=⟨g,o,none⟩) hB v)
theorem POwn.block{B:Nat}{w:World}{g cap n:Nat}{l:List Pr}(h:POwn B w (.slice (some ⟨g,0,none⟩) n cap) l):∃cur,B≤g∧w.heap[g]?=some (.cells cur 64 (0,0))∧n=l.length∧n≤cap∧cap≤maxLen∧cur.size=cap*2∧(∀i x,l[i]?=some x→TwoAt w g (i*2) x)∧∀o,w.frozen? ⟨g,o,none⟩=false:=by
 obtain⟨_,⟨e,_⟩|⟨g',cap',cur,e,h1,hh,h3,h4,h5,h6⟩⟩:=h
 · cases e
 · simp only[Value.slice.injEq,Option.some.injEq,Addr.mk.injEq]at e
   obtain⟨⟨rfl,_⟩,rfl,rfl⟩:=e;exact⟨cur,h1,hh,rfl,h3,h4,h5,fun i x hi=>by have:=POwn.cells hh h6 i x hi;rwa [Nat.zero_add]at this,fun o=>by simp[World.frozen?,hh]⟩
theorem POwn.set{B:Nat}{w:World}{g cap n:Nat}{l:List Pr}(h:POwn B w (.slice (some ⟨g,0,none⟩) n cap) l)(i:Nat)(x:Pr):POwn B (w.setCells g (i*2) (encP x)) (.slice (some ⟨g,0,none⟩) n cap) (l.set i x):=by
 obtain⟨cur,h1,hh,rfl,h3,h4,h5,hc,hf⟩:=h.block;obtain⟨cur',k1,k2⟩:=zDn (encP x) (i*2) w cur hh;have:=POwn.of_cells (B:=B) (cap:=cap) (l:=l.set i x) h1 k2 (by simpa using h3) h4 (by omega) fun j y hj=>by
  by_cases e:j=i
  · subst e
    (have hjl:j<l.length:=by have:=(List.getElem?_eq_some_iff.1 hj).1;simpa using this);rw[List.getElem?_set_self hjl]at hj;simp only[Option.some.injEq]at hj;subst hj;have t:=hc j l[j] (List.getElem?_eq_getElem hjl);have a0:((w.setCell ⟨g,j*2,none⟩ (.string x.1)).cell? ⟨g,j*2,none⟩)=some (.string x.1):=World.cell?_setCell_same' _ _ _ (by rw[t.c0];rfl);refine⟨?_,?_⟩
    · show((w.setCell ⟨g,j*2,none⟩ (.string x.1)).setCell ⟨g,j*2+1,none⟩ (.int .i64 x.2)).cell? ⟨g,j*2,none⟩=_
      have:=World.cell?_setCells_out g [.int .i64 x.2] (j*2+1) (w.setCell ⟨g,j*2,none⟩ (.string x.1)) ⟨g,j*2,none⟩ (fun _ _=>by simp);exact this.trans a0
    · show((w.setCell ⟨g,j*2,none⟩ (.string x.1)).setCell ⟨g,j*2+1,none⟩ (.int .i64 x.2)).cell? ⟨g,j*2+1,none⟩=_
      refine World.cell?_setCell_same' _ _ _ ?_;have:(w.setCell ⟨g,j*2,none⟩ (.string x.1)).cell? ⟨g,j*2+1,none⟩=w.cell? ⟨g,j*2+1,none⟩:=World.cell?_setCells_out g [.string x.1] (j*2) w ⟨g,j*2+1,none⟩ (fun _ _=>by simp);rw[this,t.c1];rfl
  · rw[List.getElem?_set_ne (fun e2=>e e2.symm)]at hj
    have t:=hc j y hj;refine⟨?_,?_⟩
    · rw[World.cell?_setCells_out g _ _ _ _ (fun _ _=>by rw[encP_k];show j*2<i*2∨i*2+2≤j*2;omega)];exact t.c0
    · rw[World.cell?_setCells_out g _ _ _ _ (fun _ _=>by rw[encP_k];show j*2+1<i*2∨i*2+2≤j*2+1;omega)];exact t.c1
 simpa using this
theorem POwn.cut{B:Nat}{w:World}{g cap n:Nat}{l:List Pr}(h:POwn B w (.slice (some ⟨g,0,none⟩) n cap) l)(j:Nat)(hj:j≤n)(vs:List Value):POwn B (w.setCells g (j*2) vs) (.slice (some ⟨g,0,none⟩) j cap) (l.take j):=by
 obtain⟨cur,h1,hh,rfl,h3,h4,h5,hc,hf⟩:=h.block;obtain⟨cur',k1,k2⟩:=zDn vs (j*2) w cur hh;have hl:(l.take j).length=j:=by simp;omega
 have:=POwn.of_cells (B:=B) (cap:=cap) (l:=l.take j) h1 k2 (by omega) h4 (by omega) fun i y hi=>by
  have hil:=(List.getElem?_eq_some_iff.1 hi).1;rw[hl]at hil;rw[List.getElem?_take,if_pos hil]at hi;have t:=hc i y hi;refine⟨?_,?_⟩
  · rw[World.cell?_setCells_out g _ _ _ _ (fun _ _=>by show i*2<_∨_;omega)];exact t.c0
  · rw[World.cell?_setCells_out g _ _ _ _ (fun _ _=>by show i*2+1<_∨_;omega)];exact t.c1
 rw[hl]at this;exact this
theorem zW1{B:Nat}{w:World}{g cap n:Nat}{l:List Pr}(h:POwn B w (.slice (some ⟨g,0,none⟩) n cap) l)(j m c:Nat)(hj:j+m=n)(ty:TypeId):
 ∃vs,(Builtin.clear_ #[22] ty #[.slice (some ⟨g,j*2,none⟩) m c]).run Tryz.prog w = .ok (.tuple #[]) (w.setCells g (j*2) vs):=by
 obtain⟨cur,h1,hh,rfl,h3,h4,h5,hc,hf⟩:=h.block;cases m with
 |zero=>exact⟨[],by simp[Builtin.clear_,run_underlying Tryz.underlying22];rfl⟩
 |succ m=>
  have hz:∀w,(zeroValue 64).run Tryz.prog w = .ok (.agg #[.string ByteArray.empty,.int .i64 0]) w:=Tryz.zeroValue64
  let vs:=(Builtin.zeroCells (Value.agg #[.string ByteArray.empty,.int .i64 0]).cells (m+1)).toList
  have hlen:vs.length=(m+1)*2:=by simp[vs,Builtin.zeroCells,Value.cells]
  have hone:∀v∈vs,v.oneCell'=true:=by
   intro v hv;simp only[vs,Builtin.zeroCells,Value.cells,Array.toList_map,List.mem_map]at hv;obtain⟨i,_,rfl⟩:=hv;(have:i%2=0∨i%2=1:=by omega);rcases this with e|e
   · show(Array.getD _ _ _:Value).oneCell'=true
     simp[e];rfl
   · show(Array.getD _ _ _:Value).oneCell'=true
     simp[e];rfl
  have hst:=run_storeCells_cells (P:=Tryz.prog) g (j*2) vs 0 w (fun t ht=>by
   (have hsz:j*2+0+t<cur.size:=by omega);simp[World.cell?,hh];omega) (fun t _=>hf _) hone
  refine⟨vs,?_⟩;simp only[Nat.add_zero]at hst;simp[Builtin.clear_,run_underlying Tryz.underlying22,hz];rw[show(Builtin.zeroCells (Value.agg #[.string ByteArray.empty,.int .i64 0]).cells (m+1)).toList=vs from rfl];simp[hst]
theorem zFd(s:ByteArray)(n:Int)(w:World):Calls Tryz.prog 97 #[.agg #[.string s,.int .i64 n]] w fun e w'=>e = .returned (.bool (n==0))∧Below w.heap.size w w':=by
 go_enter Tryz.func97,Tryz.ntmps97;go_wp2;go_ret;exact⟨rfl,(Below.refl _ w).alloc (Nat.le_refl _) _⟩
def IdxIs(l:List Pr)(r:Int):Prop:=(r = -1∧∀x∈l,¬x.2=0)∨∃P x S,l=P++x::S∧(∀y∈P,¬y.2=0)∧x.2=0∧r=(P.length:Nat)
theorem zK2(w:World)(v:Value)(l:List Pr)(h:PRow w v l)(hl:l.length<549755813888):
 Calls Tryz.prog 133 #[v,.func (.func 97) #[] #[]] w fun e w'=>∃r:Int,e = .returned (.int .i64 r)∧Below w.heap.size w w'∧IdxIs l r:=by
 obtain⟨ad,cap,rfl⟩:=h.form;have HR:Hid (PRow w (.slice ad l.length cap) l):=h;obtain⟨n,hn⟩:∃n,l.length=n:=⟨_,rfl⟩;have HN:Hid (l.length=n):=hn;have eg:∀args w,(callFunc 97 args).run Tryz.prog w = .ok (.enter 97 args) w:=enters_of Tryz.func97 (by kernel_rfl) rfl;rw[hn]at HR hl;clear h;rw[hn];clear hn;go_enter Tryz.func133,Tryz.ntmps133;go_wp2
 go_loopg [5,8] n (fun g _ s8 wr=>∃(k:Nat),s8 = .int .i64 k∧k≤n∧n-k≤g∧Hid (Below w.heap.size w wr)∧Hid (∀x∈l.take k,¬x.2=0))
 case atStart=>exact⟨0,rfl,Nat.zero_le _,by omega,Below.refl _ _,by show ∀x∈l.take 0,_;simp⟩
 case round=>
  obtain⟨k,rfl,hk,hg,HB,HA⟩:=hrel;by_cases hlt:k<n
  · have hltz:(k:Int)<(n:Int):=by omega
    obtain⟨x,hx⟩:∃x,l[k]?=some x:=⟨l[k]'(by have:=HN.out;omega),List.getElem?_eq_getElem _⟩;obtain⟨b,off,rfl,hb,hcell⟩:=(HR.out.below HB.out).at (by omega);obtain⟨c0,c1⟩:=hcell k x hx;have HX:Hid (l[k]?=some x):=hx;clear hx hcell;(have hc:=fun W=>zFd x.1 x.2 W);by_cases h0:x.2=0
    · have h0b:(x.2==0)=true:=beq_iff_eq.2 h0
      have H0:Hid (x.2=0):=h0;clear h0;go_wp2_with (first|(go_at_fn 97;refine(hc _).mono ?_;rintro e w2 ⟨rfl,hb2⟩)|(go_at_call 97;refine(hc _).mono ?_;rintro e w2 ⟨rfl,hb2⟩));go_ret;obtain⟨hk2,ex⟩:=List.getElem?_eq_some_iff.1 HX.out;refine⟨_,rfl,HB.out.trans (hb2.mono HB.out.size),.inr ⟨l.take k,x,l.drop (k+1),?_,HA.out,H0.out,?_⟩⟩
      · rw[←ex,←List.drop_eq_getElem_cons hk2,List.take_append_drop]
      · rw[List.length_take,Nat.min_eq_left (by omega)]
    · have h0b:(x.2==0)=false:=beq_eq_false_iff_ne.2 h0
      have H0:Hid (¬x.2=0):=h0;clear h0;go_wp2_with (first|(go_at_fn 97;refine(hc _).mono ?_;rintro e w2 ⟨rfl,hb2⟩)|(go_at_call 97;refine(hc _).mono ?_;rintro e w2 ⟨rfl,hb2⟩));go_roundg (n-(k+1));case measure=>omega
      case rel=>
       refine⟨k+1,by go_num,by omega,Nat.le_refl _,HB.out.trans (hb2.mono HB.out.size),?_⟩;show ∀y∈l.take (k+1),_;intro y hy;obtain⟨hk2,ex⟩:=List.getElem?_eq_some_iff.1 HX.out;rw[List.take_succ_eq_append_getElem hk2,ex]at hy;rcases List.mem_append.1 hy with h|h
       · exact HA.out y h
       · rw[List.mem_singleton.1 h];exact H0.out
  · have hltz:¬(k:Int)<(n:Int):=by omega
    go_wp2;go_ret;refine⟨_,rfl,HB.out,.inl ⟨rfl,?_⟩⟩;have h:=HA.out;rw[List.take_of_length_le (by have:=HN.out;omega)]at h;exact h
theorem zQw{l:List Pr}(h:∀x∈l,¬x.2=0):keep l=l:=List.filter_eq_self.2 fun x hx=>by simpa using h x hx
theorem zE5(a b:List Pr):keep (a++b)=keep a++keep b:=List.filter_append ..
structure DelAt(l:List Pr)(i j n:Nat)(m:List Pr):Prop where
 ij:i<j
 jn:j≤n
 len:l.length=n
 ex:∃M,m=keep (l.take j)++(M++l.drop j)∧(keep (l.take j)).length=i∧i+M.length=j
theorem DelAt.mlen{l m:List Pr}{i j n:Nat}(h:DelAt l i j n m):m.length=n:=by
 obtain⟨M,e,h1,h2⟩:=h.ex;have:=h.len;have:=h.jn;rw[e,List.length_append,List.length_append,List.length_drop];omega
theorem zDz{l:List Pr}{j:Nat}{y:Pr}(h:l[j]?=some y):l.take (j+1)=l.take j++[y]:=by
 obtain⟨hk,e⟩:=List.getElem?_eq_some_iff.1 h;rw[List.take_succ_eq_append_getElem hk,e]
theorem DelAt.at{l m:List Pr}{i j n:Nat}(h:DelAt l i j n m){y:Pr}(hy:l[j]?=some y):m[j]?=some y:=by
 obtain⟨M,e,h1,h2⟩:=h.ex;rw[e,←List.append_assoc,List.getElem?_append_right (by rw[List.length_append];omega),List.length_append,show j-((keep (l.take j)).length+M.length)=0 by omega,zE8 l j y hy];rfl
theorem DelAt.skip{l m:List Pr}{i j n:Nat}(h:DelAt l i j n m){y:Pr}(hy:l[j]?=some y)(h0:y.2=0):DelAt l i (j+1) n m:=by
 obtain⟨M,e,h1,h2⟩:=h.ex;have hk:=(List.getElem?_eq_some_iff.1 hy).1;have ek:keep (l.take (j+1))=keep (l.take j):=by rw[zDz hy,zE5];simp[keep,h0]
 refine⟨by have:=h.ij;omega,by have:=h.len;omega,h.len,M++[y],?_,by rw[ek];exact h1,by simp;omega⟩;rw[ek,e,zE8 l j y hy];simp
theorem DelAt.put{l m:List Pr}{i j n:Nat}(h:DelAt l i j n m){y:Pr}(hy:l[j]?=some y)(h0:¬y.2=0):DelAt l (i+1) (j+1) n (m.set i y):=by
 obtain⟨M,e,h1,h2⟩:=h.ex;have hk:=(List.getElem?_eq_some_iff.1 hy).1;have ek:keep (l.take (j+1))=keep (l.take j)++[y]:=by rw[zDz hy,zE5];simp[keep,h0]
 have hij:=h.ij;cases M with
 |nil=>simp at h2;omega
 |cons m0 M1=>
  refine⟨by omega,by have:=h.len;omega,h.len,M1++[y],?_,by rw[ek];simp;omega,by simp at h2 ⊢;omega⟩;rw[ek,e,zE8 l j y hy,List.set_append_right _ _ (by omega),show i-(keep (l.take j)).length=0 by omega];simp
theorem DelAt.start{P S:List Pr}{x:Pr}(h:∀y∈P,¬y.2=0)(h0:x.2=0){n:Nat}(hn:(P++x::S).length=n):DelAt (P++x::S) P.length (P.length+1) n (P++x::S):=by
 have e1:(P++x::S).take (P.length+1)=P++[x]:=by rw[List.take_append,List.take_of_length_le (by omega)];simp
 have e2:(P++x::S).drop (P.length+1)=S:=by rw[List.drop_append,List.drop_eq_nil_of_le (by omega)];simp
 have ek:keep (P++[x])=P:=by rw[zE5,zQw h];simp[keep,h0]
 refine⟨by omega,by simp at hn;omega,hn,[x],?_,?_,by simp⟩
 · rw[e1,e2,ek];simp
 · rw[e1,ek]
theorem DelAt.fin{l m:List Pr}{i j n:Nat}(h:DelAt l i j n m)(hj:¬j<n):m.take i=keep l:=by
 obtain⟨M,e,h1,h2⟩:=h.ex;have:=h.len;rw[e,List.take_append_of_le_length (by omega),←h1,List.take_length,List.take_of_length_le (by omega)]
theorem zNc{wr w2:World}{g o:Nat}{y z:Pr}{T:TypeId}(hb:Below (wr.alloc (.cells #[.string y.1,.int .i64 y.2] T)).heap.size (wr.alloc (.cells #[.string y.1,.int .i64 y.2] T)) w2)(hg:g<wr.heap.size)(d0:wr.cell? ⟨g,o,none⟩=some (.string z.1))(d1:wr.cell? ⟨g,o+1,none⟩=some (.int .i64 z.2))(f0:wr.frozen? ⟨g,o,none⟩=false)(f1:wr.frozen? ⟨g,o+1,none⟩=false):
 w2.cell? ⟨wr.heap.size,0,none⟩=some (.string y.1)∧w2.cell? ⟨wr.heap.size,1,none⟩=some (.int .i64 y.2)∧w2.cell? ⟨g,o,none⟩=some (.string z.1)∧w2.cell? ⟨g,o+1,none⟩=some (.int .i64 z.2)∧w2.frozen? ⟨g,o,none⟩=false∧w2.frozen? ⟨g,o+1,none⟩=false:=by
 have t:=(TwoAt.new wr y T).below (by simp) hb;have hb3:Below wr.heap.size wr w2:=((Below.refl _ wr).alloc (Nat.le_refl _) _).trans (hb.mono (by simp));have hblk:=hb3.block g hg;refine⟨t.c0,t.c1,(hb3.cell (p:=⟨g,o,none⟩) hg).trans d0,(hb3.cell (p:=⟨g,o+1,none⟩) hg).trans d1,?_,?_⟩
 · rw[←f0];simp[World.frozen?,hblk]
 · rw[←f1];simp[World.frozen?,hblk]
theorem zIx(B:Nat)(w:World)(v:Value)(l:List Pr)(h:POwn B w v l)(hl:l.length<549755813888)(hB:B≤w.heap.size):
 Calls Tryz.prog 95 #[v,.func (.func 97) #[] #[]] w fun e w'=>∃v',e = .returned v'∧POwn B w' v' (keep l)∧Below B w w':=by
 obtain⟨ad,cap,rfl⟩:=h.shape;have hix:=zK2 w (.slice ad l.length cap) l h.row hl;have eg:∀args w,(callFunc 97 args).run Tryz.prog w = .ok (.enter 97 args) w:=enters_of Tryz.func97 (by kernel_rfl) rfl;have HO:Hid (POwn B w (.slice ad l.length cap) l):=h;clear h;go_enter Tryz.func95,Tryz.ntmps95
 go_upto_if 12 with(go_at_call 133;refine hix.mono ?_;rintro e w1 ⟨r,rfl,hb1,hres⟩)
 rcases hres with⟨rfl,hall⟩|⟨P,x,S,hpx,hP,hx0,rfl⟩
 · have HK:Hid (keep l=l):=zQw hall
   clear hall;go_wp2;go_ret;refine⟨_,rfl,?_,hb1.mono hB⟩;rw[HK.out];exact HO.out.below hb1
 · obtain⟨g,hg⟩:∃g,ad=some ⟨g,0,none⟩:=by
    obtain⟨_,⟨e,h0⟩|⟨g,cap,cur,e,_⟩⟩:=HO.out
    · rw[hpx]at h0;simp at h0
    · simp only[Value.slice.injEq]at e
      exact⟨g,e.1⟩
   subst hg;have HO1:Hid (POwn B w1 (.slice (some ⟨g,0,none⟩) l.length cap) l):=HO.out.below hb1;have HB1:Hid (Below B w w1):=hb1.mono hB;obtain⟨n,hn⟩:∃n,l.length=n:=⟨_,rfl⟩;(have HD:Hid (DelAt l P.length (P.length+1) n l):=by show DelAt _ _ _ _ _;rw[hpx];exact DelAt.start hP hx0 (by rw[←hpx];exact hn));have HN:Hid (l.length=n):=hn;(have hp0:¬((P.length:Int) = -1):=by omega);have hp0b:((P.length:Int) == -1)=false:=beq_eq_false_iff_ne.2 hp0;(have hPn:P.length<n:=by rw[←hn,hpx];simp);obtain⟨i0,hi0⟩:∃i0,P.length=i0:=⟨_,rfl⟩;rw[hn]at HO1 hl;rw[hi0]at HD hp0 hp0b hPn;clear hb1 hpx hP hx0 hix HO;rw[hi0,hn];clear hi0 hn;go_wp2
   go_loopg [5,6,7] n (fun g2 s5 s6 _ wr=>∃(i j:Nat) (m:List Pr),s5 = .int .i64 i∧s6 = .int .i64 j∧i<j∧j≤n∧n-j≤g2∧Hid (DelAt l i j n m)∧Hid (POwn B wr (.slice (some ⟨g,0,none⟩) n cap) m)∧Hid (Below B w wr))
   case atStart=>exact⟨i0,i0+1,l,rfl,by go_num,by omega,by omega,by omega,HD,HO1,HB1⟩
   case round=>
    clear HD HO1 HB1;obtain⟨i,j,m,rfl,rfl,hij,hjn,hg2,HD,HO,HB⟩:=hrel;by_cases hlt:j<n
    · have hltz:(j:Int)<(n:Int):=by omega
      obtain⟨y,hy⟩:∃y,l[j]?=some y:=⟨l[j]'(by have:=HN.out;omega),List.getElem?_eq_getElem _⟩;have HY:Hid (l[j]?=some y):=hy;obtain⟨cur,hBg,hh,e1,e2,e3,e4,hcell,hf⟩:=HO.out.block;have hgs:g<wr.heap.size:=(Array.getElem?_eq_some_iff.1 hh).1;obtain⟨c0,c1⟩:=hcell j y (HD.out.at hy);obtain⟨z,hz⟩:∃z,m[i]?=some z:=⟨m[i]'(by have:=HD.out.mlen;omega),List.getElem?_eq_getElem _⟩;obtain⟨d0,d1⟩:=hcell i z hz;have f0:=hf (i*2);have f1:=hf (i*2+1);(have hc:=fun W=>zFd y.1 y.2 W);clear hh e1 e2 e3 e4 hcell hf hy hz;by_cases h0:y.2=0
      · have h0b:(y.2==0)=true:=beq_iff_eq.2 h0
        have HS:Hid (DelAt l i (j+1) n m):=HD.out.skip HY.out h0;clear h0;go_wp2_with (first|(go_at_fn 97;refine(hc _).mono ?_;rintro e w2 ⟨rfl,hb2⟩)|(go_at_call 97;refine(hc _).mono ?_;rintro e w2 ⟨rfl,hb2⟩));go_roundg (n-(j+1));case measure=>omega
        case rel=>
         have hb3:=((Below.refl _ wr).alloc (Nat.le_refl _) _).trans (hb2.mono (by simp));exact⟨i,j+1,m,rfl,by go_num,by omega,by omega,Nat.le_refl _,HS,HO.out.below hb3,HB.out.trans (hb3.mono (Nat.le_trans hB HB.out.size))⟩
      · have h0b:(y.2==0)=false:=beq_eq_false_iff_ne.2 h0
        have HS:Hid (DelAt l (i+1) (j+1) n (m.set i y)):=HD.out.put HY.out h0;clear h0;go_wp2_with (first|(go_at_fn 97;refine(hc _).mono ?_;rintro e w2 ⟨rfl,hb2⟩;obtain⟨q0,q1,q2,q3,q4,q5⟩:=zNc hb2 hgs d0 d1 f0 f1)|(go_at_call 97;refine(hc _).mono ?_;rintro e w2 ⟨rfl,hb2⟩;obtain⟨q0,q1,q2,q3,q4,q5⟩:=zNc hb2 hgs d0 d1 f0 f1));have hb3:=((Below.refl _ wr).alloc (Nat.le_refl _) _).trans (hb2.mono (by simp));have HO2:Hid (POwn B (w2.setCells g (i*2) (encP y)) (.slice (some ⟨g,0,none⟩) n cap) (m.set i y)):=(HO.out.below hb3).set i y;have HB2:Hid (Below B w (w2.setCells g (i*2) (encP y))):=zC5 hBg _ _ _ _ (HB.out.trans (hb3.mono (Nat.le_trans hB HB.out.size)));go_roundg (n-(j+1));(case measure=>omega);case rel=>exact⟨i+1,j+1,m.set i y,by go_num,by go_num,by omega,by omega,Nat.le_refl _,HS,HO2.out,HB2.out⟩
    · have hltz:¬(j:Int)<(n:Int):=by omega
      obtain⟨cur,hBg,hh,e1,e2,e3,e4,hcell,hf⟩:=HO.out.block;(have hic:i<cap:=by omega);(have hin:i<n:=by omega);obtain⟨k,hk⟩:∃k,i+k=n:=⟨n-i,by omega⟩;have HF:Hid (m.take i=keep l):=HD.out.fin hlt;obtain⟨vs,hvs⟩:=zW1 HO.out i k (cap-i) hk 0;have HO2:Hid (POwn B (wr.setCells g (i*2) vs) (.slice (some ⟨g,0,none⟩) i cap) (m.take i)):=HO.out.cut i (by omega) vs;have HB2:Hid (Below B w (wr.setCells g (i*2) vs)):=zC5 hBg _ _ _ _ HB.out;(have eni:n-i=k:=by omega);(have eniz:(n:Int)-(i:Int)=(k:Int):=by omega);clear hh e1 e2 e3 e4 hcell hf;go_wp2;go_ret;refine⟨_,rfl,?_,HB2.out⟩;rw[←HF.out];exact HO2.out
end
section
open Go.RowKit Nums Pm
structure PutAt6(l:List Pr)(p:Pr)(k:Nat)(done:Bool)(acc:List Pr):Prop where
 len:acc.length≤k+(if done then 1 else 0)
 eq:acc++putP zAa p done (l.drop k)=putP zAa p false l
theorem zQ2:∀(l a:List Pr),(l.foldl (put zAa) a).length≤a.length+l.length
 |[],a=>by simp
 |x::r,a=>by
  have h:=zQ2 r (put zAa a x);have h2:(put zAa a x).length≤a.length+1:=by
   have:=(PutAt6.mk (l:=a) (p:=x) (k:=0) (done:=false) (acc:=[]) (by simp) (by simp));clear this
   suffices H:∀(a:List Pr) (d:Bool),(putP zAa x d a).length≤a.length+(if d then 0 else 1)from H a false
   intro a
   induction a with
   |nil=>intro d;cases d<;>simp[putP]
   |cons y a ih=>
    intro d;rw[putP];have h1:=ih true;have h0:=ih false;cases d<;>cases zAa y.1 x.1<;>by_cases e:y.1=x.1<;>simp[e]at h1 h0 ⊢<;>omega
  rw[List.foldl_cons,List.length_cons];omega
theorem zG1(l:List Pr):(norm zAa l).length≤l.length:=by have:=zQ2 l [];simpa[norm]using this
theorem norm_mem{l:List Pr}{x:Pr}(h:x∈norm zAa l):x∈l:=by
 have e:=SUp.find_of_mem lessB_sto (zD6 lessB_sto l) h;rw[zCq lessB_sto]at e;exact find_mem e
theorem Sm.norm{l:List Pr}(h:Sm l):Sm (Pm.norm zAa l):=fun x hx=>h x (norm_mem hx)
theorem zXu(w:World)(u v:Value)(l m:List Pr)(h1:PRow w u l)(h2:PRow w v m)(hl:l.length<137438953472)(hm:m.length<137438953472):
 Calls Tryz.prog 59 #[u,v] w fun e w'=>∃v',e = .returned v'∧POwn w.heap.size w' v' (zAm zAa l m)∧Below w.heap.size w w':=by
 obtain⟨ad1,cap1,rfl⟩:=h1.form;obtain⟨ad2,cap2,rfl⟩:=h2.form;have HC:Hid (∀o,PRow (w.alloc o) (.slice ad1 l.length cap1) l∧PRow (w.alloc o) (.slice ad2 m.length cap2) m∧Below w.heap.size w (w.alloc o)):=fun o=>⟨h1.below ((Below.refl _ w).alloc (Nat.le_refl _) o),h2.below ((Below.refl _ w).alloc (Nat.le_refl _) o),(Below.refl _ w).alloc (Nat.le_refl _) o⟩
 have HL:Hid ((l++m).length<549755813888):=by show _<_;simp;omega
 clear h1 h2;go_enter Tryz.func59,Tryz.ntmps59;go_wp2_with (go_at_call 96;refine(inOrder_any _ _ _ _ (l++m) HL.out (zPl _ _ _ _ _ l m (HC.out _).1 (HC.out _).2.1 (by omega) (by omega) (by simp) (by simp) (by simp))).mono ?_;rintro e w1 ⟨v1,rfl,ho1,hb1⟩);have HB1:Hid (Below w.heap.size w w1):=(HC.out _).2.2.trans (hb1.mono (HC.out _).2.2.size);have HO1:Hid (POwn w.heap.size w1 v1 (norm zAa (l++m))):=ho1.mono (HC.out _).2.2.size;clear ho1 hb1 HC;go_wp2_with (go_at_call 95;refine(zIx w.heap.size w1 v1 _ HO1.out (by have:=zG1 (l++m);have:=HL.out;omega) HB1.out.size).mono ?_;rintro e w2 ⟨v2,rfl,ho2,hb2⟩);go_ret;exact⟨v2,rfl,ho2,HB1.out.trans hb2⟩
end
section
open Go.RowKit Go.Shelf Go.Lib Go.Sort Pm
theorem zUl(w:World)(v:Value)(l:List Pr)(s:ByteArray)(h:PRow w v l)(hl:l.length≤9223372036854775807):
 Calls Tryz.prog 44 #[v,.string s] w fun e w'=>e = .returned (.tuple #[.int .i64 ((Pm.find l s).getD 0),.bool (Pm.find l s).isSome])∧w'=w:=by
 obtain⟨ad,cap,rfl⟩:=h.form;have HR:Hid (PRow w (.slice ad l.length cap) l):=h;obtain⟨n,hn⟩:∃n,l.length=n:=⟨_,rfl⟩;have HN:Hid (l.length=n):=hn;obtain⟨F,hF⟩:∃F,Pm.find l s=F:=⟨_,rfl⟩;have HF:Hid (Pm.find l s=F):=hF;rw[hn]at HR hl;clear h;rw[hn,hF];clear hn hF;go_enter Tryz.func44,Tryz.ntmps44;go_wp2
 go_loopg [6] n (fun g s6 wr=>∃(k:Nat),s6 = .int .i64 ((k:Int)-1)∧k≤n∧k≤g∧wr=w∧Hid (Pm.find (l.take k) s=F))
 case atStart=>exact⟨n,rfl,Nat.le_refl _,Nat.le_refl _,rfl,by show _=_;rw[List.take_of_length_le (by have:=HN.out;omega)];exact HF.out⟩
 case round=>
  obtain⟨k,rfl,hk,hg,rfl,HK⟩:=hrel;cases k with
  |zero=>
   (have HE:Hid (F=none):=by show _=_;rw[←HK.out];rfl);go_wp2;go_ret2;rw[HE.out];exact⟨rfl,rfl⟩
  |succ k=>
   (have e1:((k+1:Nat):Int)-1=(k:Int):=by omega);obtain⟨x,hx⟩:∃x,l[k]?=some x:=⟨l[k]'(by have:=HN.out;omega),List.getElem?_eq_getElem _⟩;obtain⟨b,off,rfl,hb,hcell⟩:=HR.out.at (by omega);obtain⟨c0,c1⟩:=hcell k x hx;(have hstep:Pm.find (l.take (k+1)) s=if x.1=s then some x.2 else Pm.find (l.take k) s:=by rw[zDz hx,zMy]);(have hk0:(0:Int)≤(k:Int):=by omega);(have hkn:(k:Int)<(n:Int):=by omega);(have ekn:(k:Int).toNat=k:=by omega);clear hx hcell;by_cases hxs:x.1=s
   · have hs:(x.1.toList==s.toList)=true:=by rw[zRv];exact decide_eq_true hxs
     (have HE:Hid (F=some x.2):=by show _=_;rw[←HK.out,hstep,if_pos hxs]);clear hxs hstep;go_wp2;go_ret2;rw[HE.out];exact⟨rfl,rfl⟩
   · have hs:(x.1.toList==s.toList)=false:=by rw[zRv];exact decide_eq_false hxs
     (have HE:Hid (Pm.find (l.take k) s=F):=by show _=_;rw[←HK.out,hstep,if_neg hxs]);clear hxs hstep;go_wp2;go_roundg k;(case measure=>omega);case rel=>exact⟨k,by first|rfl|go_num,by omega,Nat.le_refl _,rfl,HE⟩
end
