import Derived.Shelf.Spec.SlicesGrow
import Derived.Maps.OwnIn
import Derived.Test.YtkdhdehobdfakaaGreatDoorJ34
set_option maxRecDepth 100000
set_option maxHeartbeats 8000000
namespace Go.Proofs.YtkdhdehobdfakaaGreatDoor
section
open Go.RowKit Go.Shelf Go.Lib Go.Sort Pm
shelf_lay_g Lays8.n4 Nm8 4 at Tryz 141 as growPr
theorem zNi(n:Nat)(hn:n<2199023255552)(w:World):Calls Tryz.prog 141 #[.slice none 0 0,.int .i64 n] w fun e w'=>∃v,e = .returned v∧POwn w.heap.size w' v []∧Below w.heap.size w w':=by
 obtain⟨i0,hi,hz0,hz1,hz2⟩:=info_parts zW2;rcases Nat.eq_zero_or_pos n with rfl|h0
 · refine(Any8.slices_Grow_room growPr none 0 0 0 w (Nat.le_refl _) (by omega) (by omega) (by omega)).mono ?_
   rintro e w' ⟨rfl,rfl⟩;exact⟨_,rfl,POwn.nil _ _,Below.refl _ _⟩
 · refine(Any8.slices_Grow_grow growPr i0 _ hi hz0 (by rw[hz1];decide) none 0 0 n [] w (Nat.le_refl _) (by omega) (by rw[hz2];omega) (by omega) (by simp) (fun _=>rfl) (fun a h=>by cases h)).mono ?_
   rintro e w' ⟨rfl,rfl⟩;refine⟨_,rfl,⟨rfl,.inr ⟨_,_,_,rfl,Nat.le_refl _,zAb _ _,Nat.zero_le _,?_,?_,rfl⟩⟩,((Below.refl _ w).drew).alloc (Nat.le_refl _) _⟩
   · exact grownCap_le_maxLen w (0+n) 0 _ (by unfold maxLen;omega)
   · have hge:n≤grownCap w n 0 (growPr_ren.t 25):=grownCap_ge w n 0 _
     simp[Builtin.zeroCells,Value.cells];omega
theorem zP9(w:World)(vb c:Nat)(s1:Value)(xs:List Pr)(h1:PRow w s1 xs)(hx:xs.length<549755813888)(hvb:vb<w.heap.size)(c0:w.cell? ⟨vb,0,none⟩=some s1):
 Calls Tryz.prog 110 #[.slice (some ⟨vb,0,none⟩) 1 c] w fun e w'=>∃v,e = .returned v∧POwn w.heap.size w' v xs∧Below w.heap.size w w':=by
 obtain⟨a1,cp1,rfl⟩:=h1.form;have H1:Hid (PRow w (.slice a1 xs.length cp1) xs):=h1;obtain⟨n1,hn1⟩:∃n1,xs.length=n1:=⟨_,rfl⟩;have HN1:Hid (xs.length=n1):=hn1;have hp1:¬((n1:Int)<0):=by omega
 have hn1b:n1<2199023255552:=by omega
 rw[hn1]at c0 H1;clear h1 hn1;go_enter Tryz.func110,Tryz.ntmps110;go_wp2;refine wp_loop_rounds 2 ?_;rw[rounds_succ];go_wp2;rw[rounds_succ];go_wp2_with (go_at_call 141;refine(zNi n1 hn1b _).mono ?_;rintro e w1 ⟨v,rfl,hr1,hB1⟩);have HR1:Hid (POwn w.heap.size w1 v []):=hr1;have HB1:Hid (Below w.heap.size w w1):=hB1;have d0:=(hB1.cell (p:=⟨vb,0,none⟩) hvb).trans c0;clear hr1 hB1;refine wp_loop_rounds 2 ?_;rw[rounds_succ];go_wp2_with (at_builtin;refine zGc (by rfl) _ _ rfl w.heap.size _ _ [] xs rfl HR1.out rfl (H1.out.below HB1.out) (by have:=HN1.out;simp;omega) HB1.out.size ?_);intro v2 w2 hr2 hb2 _;have HR2:Hid (POwn w.heap.size w2 v2 xs):=hr2;have HB2:Hid (Below w.heap.size w w2):=HB1.out.trans hb2;clear hr2 hb2 d0;go_wp2_with fail;rw[rounds_succ];go_wp2_with fail;go_ret;exact⟨v2,rfl,HR2.out,HB2.out⟩
theorem zP8(w:World)(vb c:Nat)(s1 s2:Value)(xs ys:List Pr)(h1:PRow w s1 xs)(h2:PRow w s2 ys)(hx:xs.length<549755813888)(hy:ys.length<549755813888)(hvb:vb<w.heap.size)
 (c0:w.cell? ⟨vb,0,none⟩=some s1) (c1:w.cell? ⟨vb,1,none⟩=some s2):
 Calls Tryz.prog 110 #[.slice (some ⟨vb,0,none⟩) 2 c] w fun e w'=>∃v,e = .returned v∧POwn w.heap.size w' v (xs++ys)∧Below w.heap.size w w':=by
 obtain⟨a1,cp1,rfl⟩:=h1.form;obtain⟨a2,cp2,rfl⟩:=h2.form;have H1:Hid (PRow w (.slice a1 xs.length cp1) xs):=h1;have H2:Hid (PRow w (.slice a2 ys.length cp2) ys):=h2;obtain⟨n1,hn1⟩:∃n1,xs.length=n1:=⟨_,rfl⟩;obtain⟨n2,hn2⟩:∃n2,ys.length=n2:=⟨_,rfl⟩;obtain⟨n3,hn3⟩:∃n3,n1+n2=n3:=⟨_,rfl⟩;have HN1:Hid (xs.length=n1):=hn1;have HN2:Hid (ys.length=n2):=hn2;have hsum:(n1:Int)+(n2:Int)=(n3:Int):=by omega
 have hp1:¬((n1:Int)<0):=by omega
 have hp3:¬((n3:Int)<0):=by omega
 have hn3b:n3<2199023255552:=by omega
 rw[hn1]at c0 H1;rw[hn2]at c1 H2;clear h1 h2 hn1 hn2;go_enter Tryz.func110,Tryz.ntmps110;go_wp2;refine wp_loop_rounds 3 ?_;rw[rounds_succ];go_wp2;rw[rounds_succ];go_wp2;rw[rounds_succ];go_wp2_with (go_at_call 141;refine(zNi n3 hn3b _).mono ?_;rintro e w1 ⟨v,rfl,hr1,hB1⟩);have HR1:Hid (POwn w.heap.size w1 v []):=hr1;have HB1:Hid (Below w.heap.size w w1):=hB1;have d0:=(hB1.cell (p:=⟨vb,0,none⟩) hvb).trans c0;clear hr1 hB1;refine wp_loop_rounds 3 ?_;rw[rounds_succ];go_wp2_with (at_builtin;refine zGc (by rfl) _ _ rfl w.heap.size _ _ [] xs rfl HR1.out rfl (H1.out.below HB1.out) (by have:=HN1.out;simp;omega) HB1.out.size ?_);intro v2 w2 hr2 hb2 _;have HR2:Hid (POwn w.heap.size w2 v2 xs):=hr2;have HB2:Hid (Below w.heap.size w w2):=HB1.out.trans hb2;have d1:=(HB2.out.cell (p:=⟨vb,1,none⟩) hvb).trans c1;clear hr2 hb2 d0;go_wp2_with fail;rw[rounds_succ];go_wp2_with (at_builtin;refine zGc (by rfl) _ _ rfl w.heap.size _ _ xs ys rfl HR2.out rfl (H2.out.below HB2.out) (by have:=HN1.out;have:=HN2.out;omega) HB2.out.size ?_);intro v3 w3 hr3 hb3 _;have HR3:Hid (POwn w.heap.size w3 v3 (xs++ys)):=hr3;have HB3:Hid (Below w.heap.size w w3):=HB2.out.trans hb3;clear hr3 hb3 d1;go_wp2_with fail;rw[rounds_succ];go_wp2_with fail;go_ret;exact⟨v3,rfl,HR3.out,HB3.out⟩
theorem zTb{x y:Pr}(r:List Pr)(h:y.1=x.1):zCc (x::y::r)=zCc (y::r):=by rw[zCc,if_pos h]
theorem zWn{x y:Pr}(r:List Pr)(h:¬y.1=x.1):zCc (x::y::r)=x::zCc (y::r):=by rw[zCc,if_neg h]
theorem zI7(w:World)(v:Value)(l:List Pr)(h:PRow w v l)(hl:l.length<549755813888):
 Calls Tryz.prog 113 #[v] w fun e w'=>∃v',e = .returned v'∧POwn w.heap.size w' v' (zCc l)∧Below w.heap.size w w':=by
 obtain⟨ad,cap,rfl⟩:∃ad cap,v = .slice ad l.length cap:=by obtain⟨ad,cap,rfl,_⟩:=h;exact⟨ad,cap,rfl⟩
 have HR:Hid (PRow w (.slice ad l.length cap) l):=h;obtain⟨n,hn⟩:∃n,l.length=n:=⟨_,rfl⟩;have HN:Hid (l.length=n):=hn;rw[hn]at HR hl;clear h;rw[hn];clear hn;go_enter Tryz.func113,Tryz.ntmps113;go_wp2
 go_loopg [3,4,5,8] n (fun g s3 _ _ s8 wr=>∃(k:Nat) (acc:List Pr),s8 = .int .i64 k∧k≤n∧n-k≤g∧Hid (POwn w.heap.size wr s3 acc)∧Hid (Below w.heap.size w wr)∧Hid (acc.length≤k)∧Hid (acc++zCc (l.drop k)=zCc l))
 case atStart=>exact⟨0,[],rfl,Nat.zero_le _,by omega,POwn.nil _ _,Below.refl _ _,Nat.le_refl _,by show _=_;simp⟩
 case round=>
  obtain⟨k,acc,rfl,hk,hg,HO,HB,HACC,HE⟩:=hrel;by_cases hlt:k<n
  · have hltz:(k:Int)<(n:Int):=by omega
    obtain⟨x,hx⟩:∃x,l[k]?=some x:=⟨l[k]'(by have:=HN.out;omega),List.getElem?_eq_getElem _⟩;obtain⟨b,off,rfl,hb,hcell⟩:=(HR.out.below HB.out).at (by omega);obtain⟨c0,c1⟩:=hcell k x hx;have HX:Hid (l[k]?=some x):=hx;have HD:Hid (l.drop k=x::l.drop (k+1)):=zCe l k x hx;(have rk1:IntKind.i64.wrap ((k:Int)+1)=(k:Int)+1:=by rw[IntKind.wrap_i64];omega);by_cases hend:k+1=n
    · have hendz:((k:Int)+1==(n:Int))=true:=beq_iff_eq.2 (by omega)
      have HE2:Hid (acc++[x]++zCc (l.drop (k+1))=zCc l):=by
       show _=_;rw[←HE.out,HD.out,List.drop_eq_nil_of_le (by have:=HN.out;omega)];simp[zCc]
      clear hcell hx;go_wp2_with fail;go_quiet (fail);(have hWn:∀o:Obj,((wr.alloc o).drewN nq).heap.size=wr.heap.size+1:=fun o=>by simp);(have HWo:Hid (∀o:Obj,POwn w.heap.size ((wr.alloc o).drewN nq) u3 acc∧Below w.heap.size w ((wr.alloc o).drewN nq)):=fun o=>⟨HO.out.below (belowN ((Below.refl _ wr).alloc (Nat.le_refl _) _) nq),belowN (HB.out.alloc (by have:=HB.out.size;omega) _) nq⟩);go_wp2_with (at_builtin;refine zC3 (by rfl) _ _ x _ rfl w.heap.size _ _ _ acc rfl (HWo.out _).1 rfl (hWn _).symm (by have:=HACC.out;omega) (HWo.out _).2.size ?_);intro v2 w2 hr2 hb2;have HR2:Hid (POwn w.heap.size w2 v2 (acc++[x])):=hr2;have HB2:Hid (Below w.heap.size w w2):=(HWo.out _).2.trans hb2;clear hr2 hb2;go_wp2_with fail;go_roundg (n-(k+1));(case measure=>omega);case rel=>exact⟨k+1,acc++[x],by go_num,by omega,Nat.le_refl _,HR2,HB2,by have:=HACC.out;show _≤_;simp;omega,HE2⟩
    · have hendz:((k:Int)+1==(n:Int))=false:=beq_eq_false_iff_ne.2 (by omega)
      obtain⟨y,hy⟩:∃y,l[k+1]?=some y:=⟨l[k+1]'(by have:=HN.out;omega),List.getElem?_eq_getElem _⟩;have HD2:Hid (l.drop (k+1)=y::l.drop (k+1+1)):=zCe l (k+1) y hy;obtain⟨d0,d1⟩:=hcell (k+1) y hy;(have p1:(0:Int)≤(k:Int)+1:=by omega);(have b1:(k:Int)+1<(n:Int):=by omega);(have e1:((k:Int)+1).toNat=k+1:=by omega);clear hcell hx hy;by_cases hyx:y.1=x.1
      · have hs:(y.1.toList==x.1.toList)=true:=by rw[zFm];exact decide_eq_true hyx
        have HE2:Hid (acc++zCc (l.drop (k+1))=zCc l):=by
         show _=_;rw[←HE.out,HD.out,HD2.out,zTb _ hyx]
        clear hyx;go_wp2_with fail;go_quiet (fail);go_wp2_with fail;go_roundg (n-(k+1));(case measure=>omega);case rel=>exact⟨k+1,acc,by go_num,by omega,Nat.le_refl _,HO.out.below (belowN ((Below.refl _ wr).alloc (Nat.le_refl _) _) _),belowN (HB.out.alloc (by have:=HB.out.size;omega) _) _,by have:=HACC.out;show _≤_;omega,HE2⟩
      · have hs:(y.1.toList==x.1.toList)=false:=by rw[zFm];exact decide_eq_false hyx
        have HE2:Hid (acc++[x]++zCc (l.drop (k+1))=zCc l):=by
         show _=_;rw[←HE.out,HD.out,HD2.out,zWn _ hyx];simp
        clear hyx;go_wp2_with fail;go_quiet (fail);(have hWn:∀o:Obj,((wr.alloc o).drewN nq).heap.size=wr.heap.size+1:=fun o=>by simp);(have HWo:Hid (∀o:Obj,POwn w.heap.size ((wr.alloc o).drewN nq) u3 acc∧Below w.heap.size w ((wr.alloc o).drewN nq)):=fun o=>⟨HO.out.below (belowN ((Below.refl _ wr).alloc (Nat.le_refl _) _) nq),belowN (HB.out.alloc (by have:=HB.out.size;omega) _) nq⟩);go_wp2_with (at_builtin;refine zC3 (by rfl) _ _ x _ rfl w.heap.size _ _ _ acc rfl (HWo.out _).1 rfl (hWn _).symm (by have:=HACC.out;omega) (HWo.out _).2.size ?_);intro v2 w2 hr2 hb2;have HR2:Hid (POwn w.heap.size w2 v2 (acc++[x])):=hr2;have HB2:Hid (Below w.heap.size w w2):=(HWo.out _).2.trans hb2;clear hr2 hb2;go_wp2_with fail;go_roundg (n-(k+1));(case measure=>omega);case rel=>exact⟨k+1,acc++[x],by go_num,by omega,Nat.le_refl _,HR2,HB2,by have:=HACC.out;show _≤_;simp;omega,HE2⟩
  · have hltz:¬(k:Int)<(n:Int):=by omega
    have HE2:Hid (acc=zCc l):=by
     show _=_;rw[←HE.out,List.drop_eq_nil_of_le (by have:=HN.out;omega)];simp[zCc]
    go_wp2_with fail;go_ret;exact⟨_,rfl,HE2.out▸HO.out,HB.out⟩
theorem zLl(w:World):Calls Tryz.prog 158 #[.slice none 0 0,.int .i64 0,.int .i64 0,.func (.func 112) #[] #[]] w fun e w'=>e = .returned (.tuple #[])∧w'=w:=by
 go_enter Tryz.func158,Tryz.ntmps158;go_wp2;refine wp_loop_rounds 1 ?_;rw[rounds_succ];go_wp2
 go_end0
 exact⟨rfl,rfl⟩
theorem zSn(w:World):Calls Tryz.prog 142 #[.slice none 0 0,.int .i64 0,.func (.func 112) #[] #[]] w fun e w'=>e = .returned (.tuple #[])∧w'=w:=by
 go_enter Tryz.func142,Tryz.ntmps142;go_wp2;refine wp_loop_rounds 1 ?_;rw[rounds_succ];go_wp2_with (go_at_call 158;refine(zLl _).mono ?_;rintro e w2 ⟨rfl,rfl⟩);refine wp_loop_rounds 1 ?_;rw[rounds_succ];go_wp2
 go_end0
 exact⟨rfl,rfl⟩
theorem zI2(w:World):Calls Tryz.prog 111 #[.slice none 0 0,.func (.func 112) #[] #[]] w fun e w'=>e = .returned (.tuple #[])∧w'=w:=by
 go_enter Tryz.func111,Tryz.ntmps111;go_wp2_with (go_at_call 142;refine(zSn _).mono ?_;rintro e w2 ⟨rfl,rfl⟩)
 go_end0
 exact⟨rfl,rfl⟩
theorem sort_own{B:Nat}{w:World}{v:Value}{l:List Pr}(h:POwn B w v l)(hl:l.length<1125899906842624)(hB:B≤w.heap.size):
 Calls Tryz.prog 111 #[v,.func (.func 112) #[] #[]] w fun e w'=>e = .returned (.tuple #[])∧∃l',Stably zAa l l'∧POwn B w' v l'∧Below B w w':=by
 have h':=h;obtain⟨_,⟨e,h0⟩|⟨g,cap,cur,rfl,h1,hh,h3,h4,h5,h6⟩⟩:=h
 · have hl0:l=[]:=List.eq_nil_of_length_eq_zero h0
   subst hl0;subst e;refine(zI2 w).mono ?_;rintro e w' ⟨rfl,rfl⟩;exact⟨rfl,[],⟨List.Pairwise.nil,fun _=>rfl⟩,h',Below.refl _ _⟩
 · obtain⟨R,S,hBg⟩:=RowP.of_own h' hl
   refine(zI3 g 0 l.length cap w w R hl l S rfl).mono ?_;rintro e w' ⟨rfl,l',hs,hS⟩;have hlen:=hs.len;have ho:=h'.sorted hl hS hlen;rw[hlen]at ho;exact⟨rfl,l',hs,ho,SWK.below hS hBg hB⟩
theorem inOrder_any(w:World)(vb n c:Nat)(l:List Pr)(hl:l.length<549755813888)
 (hc:Calls Tryz.prog 110 #[.slice (some ⟨vb,0,none⟩) n c] w fun e w'=>∃v,e = .returned v∧POwn w.heap.size w' v l∧Below w.heap.size w w'):
 Calls Tryz.prog 77 #[.slice (some ⟨vb,0,none⟩) n c] w fun e w'=>∃v,e = .returned v∧POwn w.heap.size w' v (norm zAa l)∧Below w.heap.size w w':=by
 go_enter Tryz.func77,Tryz.ntmps77;go_wp2_with (go_at_call 110;refine hc.mono ?_;rintro e w1 ⟨v1,rfl,ho1,hb1⟩);have H1:Hid (POwn w.heap.size w1 v1 l∧Below w.heap.size w w1):=⟨ho1,hb1⟩;clear hc ho1 hb1;go_wp2_with (go_at_call 111;refine(sort_own H1.out.1 (by omega) H1.out.2.size).mono ?_;rintro e w2 ⟨rfl,l',hs,ho2,hb2⟩);have H2:Hid (Stably zAa l l'∧POwn w.heap.size w2 v1 l'∧Below w.heap.size w w2):=⟨hs,ho2,H1.out.2.trans hb2⟩;clear hs ho2 hb2;go_wp2_with (go_at_call 113;refine(zI7 w2 v1 l' H2.out.2.1.row (by have:=H2.out.1.len;omega)).mono ?_;rintro e w3 ⟨v3,rfl,ho3,hb3⟩);go_ret;have e1:=zI6 lessB_sto H2.out.1;rw[e1]at ho3;exact⟨v3,rfl,ho3.mono H2.out.2.2.size,H2.out.2.2.trans (hb3.mono H2.out.2.2.size)⟩
theorem zSa(w:World)(v:Value)(l:List Pr)(h:PRow w v l)(hl:l.length<549755813888):
 Calls Tryz.prog 57 #[v] w fun e w'=>∃v',e = .returned v'∧POwn w.heap.size w' v' (norm zAa l)∧Below w.heap.size w w':=by
 obtain⟨ad,cap,rfl⟩:=h.form;have hc:=fun o=>(⟨h.below ((Below.refl _ w).alloc (Nat.le_refl _) o),(Below.refl _ w).alloc (Nat.le_refl _) o⟩:PRow (w.alloc o) (.slice ad l.length cap) l∧Below w.heap.size w (w.alloc o))
 have HC:Hid _:=hc;clear hc h;go_enter Tryz.func57,Tryz.ntmps57;go_wp2_with (go_at_call 77;refine(inOrder_any _ _ _ _ l hl (zP9 _ _ _ _ l (HC.out _).1 hl (by simp) (by simp))).mono ?_;rintro e w1 ⟨v1,rfl,ho1,hb1⟩);go_ret;exact⟨v1,rfl,ho1.mono (HC.out _).2.size,(HC.out _).2.trans (hb1.mono (HC.out _).2.size)⟩
theorem zDp{g:Nat}{T:TypeId}{f:Nat×Nat}:∀(vs:List Value) (o:Nat) (w:World) (cur:Array Value),w.heap[g]?=some (.cells cur T f)→∃cur',cur'.size=cur.size∧(w.setCells g o vs).heap[g]?=some (.cells cur' T f)
 |[],_,_,cur,h=>⟨cur,rfl,h⟩
 |v::r,o,w,cur,h=>by
  have h2:(w.setCell ⟨g,o,none⟩ v).heap[g]?=some (.cells (cur.setIfInBounds o v) T f):=by simp[World.setCell,Array.getElem?_modify,h]
  obtain⟨cur',h3,h4⟩:=zDp r (o+1) _ _ h2;exact⟨cur',by rw[h3];simp,h4⟩
theorem zC6{g B:Nat}(hB:B≤g):∀(vs:List Value) (o:Nat) (a w:World),Below B a w→Below B a (w.setCells g o vs)
 |[],_,_,_,h=>h
 |v::r,o,a,_,h=>zC6 hB r (o+1) a _ (h.setCell (p:=⟨g,o,none⟩) hB v)
theorem POwn.block{B:Nat}{w:World}{g cap n:Nat}{l:List Pr}(h:POwn B w (.slice (some ⟨g,0,none⟩) n cap) l):∃cur,B≤g∧w.heap[g]?=some (.cells cur 75 (0,0))∧n=l.length∧n≤cap∧cap≤maxLen∧cur.size=cap*2∧(∀i x,l[i]?=some x→TwoAt w g (i*2) x)∧∀o,w.frozen? ⟨g,o,none⟩=false:=by
 obtain⟨_,⟨e,_⟩|⟨g',cap',cur,e,h1,hh,h3,h4,h5,h6⟩⟩:=h
 · cases e
 · simp only[Value.slice.injEq,Option.some.injEq,Addr.mk.injEq]at e
   obtain⟨⟨rfl,_⟩,rfl,rfl⟩:=e;exact⟨cur,h1,hh,rfl,h3,h4,h5,fun i x hi=>by have:=POwn.cells hh h6 i x hi;rwa [Nat.zero_add]at this,fun o=>by simp[World.frozen?,hh]⟩
theorem POwn.set{B:Nat}{w:World}{g cap n:Nat}{l:List Pr}(h:POwn B w (.slice (some ⟨g,0,none⟩) n cap) l)(i:Nat)(x:Pr):POwn B (w.setCells g (i*2) (encP x)) (.slice (some ⟨g,0,none⟩) n cap) (l.set i x):=by
 obtain⟨cur,h1,hh,rfl,h3,h4,h5,hc,hf⟩:=h.block;obtain⟨cur',k1,k2⟩:=zDp (encP x) (i*2) w cur hh;have:=POwn.of_cells (B:=B) (cap:=cap) (l:=l.set i x) h1 k2 (by simpa using h3) h4 (by omega) fun j y hj=>by
  by_cases e:j=i
  · subst e
    (have hjl:j<l.length:=by have:=(List.getElem?_eq_some_iff.1 hj).1;simpa using this);rw[List.getElem?_set_self hjl]at hj;simp only[Option.some.injEq]at hj;subst hj;have t:=hc j l[j] (List.getElem?_eq_getElem hjl);have a0:((w.setCell ⟨g,j*2,none⟩ (.string x.1)).cell? ⟨g,j*2,none⟩)=some (.string x.1):=World.cell?_setCell_same' _ _ _ (by rw[t.c0];rfl);refine⟨?_,?_⟩
    · show((w.setCell ⟨g,j*2,none⟩ (.string x.1)).setCell ⟨g,j*2+1,none⟩ (.int .i64 x.2)).cell? ⟨g,j*2,none⟩=_
      have:=World.cell?_setCells_out g [.int .i64 x.2] (j*2+1) (w.setCell ⟨g,j*2,none⟩ (.string x.1)) ⟨g,j*2,none⟩ (fun _ _=>by simp);exact this.trans a0
    · show((w.setCell ⟨g,j*2,none⟩ (.string x.1)).setCell ⟨g,j*2+1,none⟩ (.int .i64 x.2)).cell? ⟨g,j*2+1,none⟩=_
      refine World.cell?_setCell_same' _ _ _ ?_;have:(w.setCell ⟨g,j*2,none⟩ (.string x.1)).cell? ⟨g,j*2+1,none⟩=w.cell? ⟨g,j*2+1,none⟩:=World.cell?_setCells_out g [.string x.1] (j*2) w ⟨g,j*2+1,none⟩ (fun _ _=>by simp);rw[this,t.c1];rfl
  · rw[List.getElem?_set_ne (fun e2=>e e2.symm)]at hj
    have t:=hc j y hj;refine⟨?_,?_⟩
    · rw[World.cell?_setCells_out g _ _ _ _ (fun _ _=>by rw[encP_k];show j*2<i*2∨i*2+2≤j*2;omega)];exact t.c0
    · rw[World.cell?_setCells_out g _ _ _ _ (fun _ _=>by rw[encP_k];show j*2+1<i*2∨i*2+2≤j*2+1;omega)];exact t.c1
 simpa using this
theorem POwn.cut{B:Nat}{w:World}{g cap n:Nat}{l:List Pr}(h:POwn B w (.slice (some ⟨g,0,none⟩) n cap) l)(j:Nat)(hj:j≤n)(vs:List Value):POwn B (w.setCells g (j*2) vs) (.slice (some ⟨g,0,none⟩) j cap) (l.take j):=by
 obtain⟨cur,h1,hh,rfl,h3,h4,h5,hc,hf⟩:=h.block;obtain⟨cur',k1,k2⟩:=zDp vs (j*2) w cur hh;have hl:(l.take j).length=j:=by simp;omega
 have:=POwn.of_cells (B:=B) (cap:=cap) (l:=l.take j) h1 k2 (by omega) h4 (by omega) fun i y hi=>by
  have hil:=(List.getElem?_eq_some_iff.1 hi).1;rw[hl]at hil;rw[List.getElem?_take,if_pos hil]at hi;have t:=hc i y hi;refine⟨?_,?_⟩
  · rw[World.cell?_setCells_out g _ _ _ _ (fun _ _=>by show i*2<_∨_;omega)];exact t.c0
  · rw[World.cell?_setCells_out g _ _ _ _ (fun _ _=>by show i*2+1<_∨_;omega)];exact t.c1
 rw[hl]at this;exact this
theorem zX5{B:Nat}{w:World}{g cap n:Nat}{l:List Pr}(h:POwn B w (.slice (some ⟨g,0,none⟩) n cap) l)(j m c:Nat)(hj:j+m=n)(ty:TypeId):
 ∃vs,(Builtin.clear_ #[22] ty #[.slice (some ⟨g,j*2,none⟩) m c]).run Tryz.prog w = .ok (.tuple #[]) (w.setCells g (j*2) vs):=by
 obtain⟨cur,h1,hh,rfl,h3,h4,h5,hc,hf⟩:=h.block;cases m with
 |zero=>exact⟨[],by simp[Builtin.clear_,run_underlying Tryz.underlying22];rfl⟩
 |succ m=>
  have hz:∀w,(zeroValue 75).run Tryz.prog w = .ok (.agg #[.string ByteArray.empty,.int .i64 0]) w:=Tryz.zeroValue75
  let vs:=(Builtin.zeroCells (Value.agg #[.string ByteArray.empty,.int .i64 0]).cells (m+1)).toList
  have hlen:vs.length=(m+1)*2:=by simp[vs,Builtin.zeroCells,Value.cells]
  have hone:∀v∈vs,v.oneCell'=true:=by
   intro v hv;simp only[vs,Builtin.zeroCells,Value.cells,Array.toList_map,List.mem_map]at hv;obtain⟨i,_,rfl⟩:=hv;(have:i%2=0∨i%2=1:=by omega);rcases this with e|e
   · show(Array.getD _ _ _:Value).oneCell'=true
     simp[e];rfl
   · show(Array.getD _ _ _:Value).oneCell'=true
     simp[e];rfl
  have hst:=run_storeCells_cells (P:=Tryz.prog) g (j*2) vs 0 w (fun t ht=>by
   (have hsz:j*2+0+t<cur.size:=by omega);simp[World.cell?,hh];omega) (fun t _=>hf _) hone
  refine⟨vs,?_⟩;simp only[Nat.add_zero]at hst;simp[Builtin.clear_,run_underlying Tryz.underlying22,hz];rw[show(Builtin.zeroCells (Value.agg #[.string ByteArray.empty,.int .i64 0]).cells (m+1)).toList=vs from rfl];simp[hst]
theorem zFj(s:ByteArray)(n:Int)(w:World):Calls Tryz.prog 78 #[.agg #[.string s,.int .i64 n]] w fun e w'=>e = .returned (.bool (n==0))∧Below w.heap.size w w':=by
 go_enter Tryz.func78,Tryz.ntmps78;go_wp2;go_ret;exact⟨rfl,(Below.refl _ w).alloc (Nat.le_refl _) _⟩
def IdxIs(l:List Pr)(r:Int):Prop:=(r = -1∧∀x∈l,¬x.2=0)∨∃P x S,l=P++x::S∧(∀y∈P,¬y.2=0)∧x.2=0∧r=(P.length:Nat)
theorem zLm(w:World)(v:Value)(l:List Pr)(h:PRow w v l)(hl:l.length<549755813888):
 Calls Tryz.prog 109 #[v,.func (.func 78) #[] #[]] w fun e w'=>∃r:Int,e = .returned (.int .i64 r)∧Below w.heap.size w w'∧IdxIs l r:=by
 obtain⟨ad,cap,rfl⟩:=h.form;have HR:Hid (PRow w (.slice ad l.length cap) l):=h;obtain⟨n,hn⟩:∃n,l.length=n:=⟨_,rfl⟩;have HN:Hid (l.length=n):=hn;have eg:∀args w,(callFunc 78 args).run Tryz.prog w = .ok (.enter 78 args) w:=enters_of Tryz.func78 (by kernel_rfl) rfl;rw[hn]at HR hl;clear h;rw[hn];clear hn;go_enter Tryz.func109,Tryz.ntmps109;go_wp2
 go_loopg [5,8] n (fun g _ s8 wr=>∃(k:Nat),s8 = .int .i64 k∧k≤n∧n-k≤g∧Hid (Below w.heap.size w wr)∧Hid (∀x∈l.take k,¬x.2=0))
 case atStart=>exact⟨0,rfl,Nat.zero_le _,by omega,Below.refl _ _,by show ∀x∈l.take 0,_;simp⟩
 case round=>
  obtain⟨k,rfl,hk,hg,HB,HA⟩:=hrel;by_cases hlt:k<n
  · have hltz:(k:Int)<(n:Int):=by omega
    obtain⟨x,hx⟩:∃x,l[k]?=some x:=⟨l[k]'(by have:=HN.out;omega),List.getElem?_eq_getElem _⟩;obtain⟨b,off,rfl,hb,hcell⟩:=(HR.out.below HB.out).at (by omega);obtain⟨c0,c1⟩:=hcell k x hx;have HX:Hid (l[k]?=some x):=hx;clear hx hcell;(have hc:=fun W=>zFj x.1 x.2 W);by_cases h0:x.2=0
    · have h0b:(x.2==0)=true:=beq_iff_eq.2 h0
      have H0:Hid (x.2=0):=h0;clear h0;go_wp2_with (first|(go_at_fn 78;refine(hc _).mono ?_;rintro e w2 ⟨rfl,hb2⟩)|(go_at_call 78;refine(hc _).mono ?_;rintro e w2 ⟨rfl,hb2⟩));go_ret;obtain⟨hk2,ex⟩:=List.getElem?_eq_some_iff.1 HX.out;refine⟨_,rfl,HB.out.trans (hb2.mono HB.out.size),.inr ⟨l.take k,x,l.drop (k+1),?_,HA.out,H0.out,?_⟩⟩
      · rw[←ex,←List.drop_eq_getElem_cons hk2,List.take_append_drop]
      · rw[List.length_take,Nat.min_eq_left (by omega)]
    · have h0b:(x.2==0)=false:=beq_eq_false_iff_ne.2 h0
      have H0:Hid (¬x.2=0):=h0;clear h0;go_wp2_with (first|(go_at_fn 78;refine(hc _).mono ?_;rintro e w2 ⟨rfl,hb2⟩)|(go_at_call 78;refine(hc _).mono ?_;rintro e w2 ⟨rfl,hb2⟩));go_roundg (n-(k+1));case measure=>omega
      case rel=>
       refine⟨k+1,by go_num,by omega,Nat.le_refl _,HB.out.trans (hb2.mono HB.out.size),?_⟩;show ∀y∈l.take (k+1),_;intro y hy;obtain⟨hk2,ex⟩:=List.getElem?_eq_some_iff.1 HX.out;rw[List.take_succ_eq_append_getElem hk2,ex]at hy;rcases List.mem_append.1 hy with h|h
       · exact HA.out y h
       · rw[List.mem_singleton.1 h];exact H0.out
  · have hltz:¬(k:Int)<(n:Int):=by omega
    go_wp2;go_ret;refine⟨_,rfl,HB.out,.inl ⟨rfl,?_⟩⟩;have h:=HA.out;rw[List.take_of_length_le (by have:=HN.out;omega)]at h;exact h
theorem zRj{l:List Pr}(h:∀x∈l,¬x.2=0):keep l=l:=List.filter_eq_self.2 fun x hx=>by simpa using h x hx
theorem zFc(a b:List Pr):keep (a++b)=keep a++keep b:=List.filter_append ..
structure DelAt(l:List Pr)(i j n:Nat)(m:List Pr):Prop where
 ij:i<j
 jn:j≤n
 len:l.length=n
 ex:∃M,m=keep (l.take j)++(M++l.drop j)∧(keep (l.take j)).length=i∧i+M.length=j
theorem DelAt.mlen{l m:List Pr}{i j n:Nat}(h:DelAt l i j n m):m.length=n:=by
 obtain⟨M,e,h1,h2⟩:=h.ex;have:=h.len;have:=h.jn;rw[e,List.length_append,List.length_append,List.length_drop];omega
theorem zD2{l:List Pr}{j:Nat}{y:Pr}(h:l[j]?=some y):l.take (j+1)=l.take j++[y]:=by
 obtain⟨hk,e⟩:=List.getElem?_eq_some_iff.1 h;rw[List.take_succ_eq_append_getElem hk,e]
theorem DelAt.at{l m:List Pr}{i j n:Nat}(h:DelAt l i j n m){y:Pr}(hy:l[j]?=some y):m[j]?=some y:=by
 obtain⟨M,e,h1,h2⟩:=h.ex;rw[e,←List.append_assoc,List.getElem?_append_right (by rw[List.length_append];omega),List.length_append,show j-((keep (l.take j)).length+M.length)=0 by omega,zCe l j y hy];rfl
theorem DelAt.skip{l m:List Pr}{i j n:Nat}(h:DelAt l i j n m){y:Pr}(hy:l[j]?=some y)(h0:y.2=0):DelAt l i (j+1) n m:=by
 obtain⟨M,e,h1,h2⟩:=h.ex;have hk:=(List.getElem?_eq_some_iff.1 hy).1;have ek:keep (l.take (j+1))=keep (l.take j):=by rw[zD2 hy,zFc];simp[keep,h0]
 refine⟨by have:=h.ij;omega,by have:=h.len;omega,h.len,M++[y],?_,by rw[ek];exact h1,by simp;omega⟩;rw[ek,e,zCe l j y hy];simp
theorem DelAt.put{l m:List Pr}{i j n:Nat}(h:DelAt l i j n m){y:Pr}(hy:l[j]?=some y)(h0:¬y.2=0):DelAt l (i+1) (j+1) n (m.set i y):=by
 obtain⟨M,e,h1,h2⟩:=h.ex;have hk:=(List.getElem?_eq_some_iff.1 hy).1;have ek:keep (l.take (j+1))=keep (l.take j)++[y]:=by rw[zD2 hy,zFc];simp[keep,h0]
 have hij:=h.ij;cases M with
 |nil=>simp at h2;omega
 |cons m0 M1=>
  refine⟨by omega,by have:=h.len;omega,h.len,M1++[y],?_,by rw[ek];simp;omega,by simp at h2 ⊢;omega⟩;rw[ek,e,zCe l j y hy,List.set_append_right _ _ (by omega),show i-(keep (l.take j)).length=0 by omega];simp
theorem DelAt.start{P S:List Pr}{x:Pr}(h:∀y∈P,¬y.2=0)(h0:x.2=0){n:Nat}(hn:(P++x::S).length=n):DelAt (P++x::S) P.length (P.length+1) n (P++x::S):=by
 have e1:(P++x::S).take (P.length+1)=P++[x]:=by rw[List.take_append,List.take_of_length_le (by omega)];simp
 have e2:(P++x::S).drop (P.length+1)=S:=by rw[List.drop_append,List.drop_eq_nil_of_le (by omega)];simp
 have ek:keep (P++[x])=P:=by rw[zFc,zRj h];simp[keep,h0]
 refine⟨by omega,by simp at hn;omega,hn,[x],?_,?_,by simp⟩
 · rw[e1,e2,ek];simp
 · rw[e1,ek]
theorem DelAt.fin{l m:List Pr}{i j n:Nat}(h:DelAt l i j n m)(hj:¬j<n):m.take i=keep l:=by
 obtain⟨M,e,h1,h2⟩:=h.ex;have:=h.len;rw[e,List.take_append_of_le_length (by omega),←h1,List.take_length,List.take_of_length_le (by omega)]
theorem zNx{wr w2:World}{g o:Nat}{y z:Pr}{T:TypeId}(hb:Below (wr.alloc (.cells #[.string y.1,.int .i64 y.2] T)).heap.size (wr.alloc (.cells #[.string y.1,.int .i64 y.2] T)) w2)(hg:g<wr.heap.size)(d0:wr.cell? ⟨g,o,none⟩=some (.string z.1))(d1:wr.cell? ⟨g,o+1,none⟩=some (.int .i64 z.2))(f0:wr.frozen? ⟨g,o,none⟩=false)(f1:wr.frozen? ⟨g,o+1,none⟩=false):
 w2.cell? ⟨wr.heap.size,0,none⟩=some (.string y.1)∧w2.cell? ⟨wr.heap.size,1,none⟩=some (.int .i64 y.2)∧w2.cell? ⟨g,o,none⟩=some (.string z.1)∧w2.cell? ⟨g,o+1,none⟩=some (.int .i64 z.2)∧w2.frozen? ⟨g,o,none⟩=false∧w2.frozen? ⟨g,o+1,none⟩=false:=by
 have t:=(TwoAt.new wr y T).below (by simp) hb;have hb3:Below wr.heap.size wr w2:=((Below.refl _ wr).alloc (Nat.le_refl _) _).trans (hb.mono (by simp));have hblk:=hb3.block g hg;refine⟨t.c0,t.c1,(hb3.cell (p:=⟨g,o,none⟩) hg).trans d0,(hb3.cell (p:=⟨g,o+1,none⟩) hg).trans d1,?_,?_⟩
 · rw[←f0];simp[World.frozen?,hblk]
 · rw[←f1];simp[World.frozen?,hblk]
theorem zJd(B:Nat)(w:World)(v:Value)(l:List Pr)(h:POwn B w v l)(hl:l.length<549755813888)(hB:B≤w.heap.size):
 Calls Tryz.prog 76 #[v,.func (.func 78) #[] #[]] w fun e w'=>∃v',e = .returned v'∧POwn B w' v' (keep l)∧Below B w w':=by
 obtain⟨ad,cap,rfl⟩:=h.shape;have hix:=zLm w (.slice ad l.length cap) l h.row hl;have eg:∀args w,(callFunc 78 args).run Tryz.prog w = .ok (.enter 78 args) w:=enters_of Tryz.func78 (by kernel_rfl) rfl;have HO:Hid (POwn B w (.slice ad l.length cap) l):=h;clear h;go_enter Tryz.func76,Tryz.ntmps76
 go_upto_if 12 with(go_at_call 109;refine hix.mono ?_;rintro e w1 ⟨r,rfl,hb1,hres⟩)
 rcases hres with⟨rfl,hall⟩|⟨P,x,S,hpx,hP,hx0,rfl⟩
 · have HK:Hid (keep l=l):=zRj hall
   clear hall;go_wp2;go_ret;refine⟨_,rfl,?_,hb1.mono hB⟩;rw[HK.out];exact HO.out.below hb1
 · obtain⟨g,hg⟩:∃g,ad=some ⟨g,0,none⟩:=by
    obtain⟨_,⟨e,h0⟩|⟨g,cap,cur,e,_⟩⟩:=HO.out
    · rw[hpx]at h0;simp at h0
    · simp only[Value.slice.injEq]at e
      exact⟨g,e.1⟩
   subst hg;have HO1:Hid (POwn B w1 (.slice (some ⟨g,0,none⟩) l.length cap) l):=HO.out.below hb1;have HB1:Hid (Below B w w1):=hb1.mono hB;obtain⟨n,hn⟩:∃n,l.length=n:=⟨_,rfl⟩;(have HD:Hid (DelAt l P.length (P.length+1) n l):=by show DelAt _ _ _ _ _;rw[hpx];exact DelAt.start hP hx0 (by rw[←hpx];exact hn));have HN:Hid (l.length=n):=hn;(have hp0:¬((P.length:Int) = -1):=by omega);have hp0b:((P.length:Int) == -1)=false:=beq_eq_false_iff_ne.2 hp0;(have hPn:P.length<n:=by rw[←hn,hpx];simp);obtain⟨i0,hi0⟩:∃i0,P.length=i0:=⟨_,rfl⟩;rw[hn]at HO1 hl;rw[hi0]at HD hp0 hp0b hPn;clear hb1 hpx hP hx0 hix HO;rw[hi0,hn];clear hi0 hn;go_wp2
   go_loopg [5,6,7] n (fun g2 s5 s6 _ wr=>∃(i j:Nat) (m:List Pr),s5 = .int .i64 i∧s6 = .int .i64 j∧i<j∧j≤n∧n-j≤g2∧Hid (DelAt l i j n m)∧Hid (POwn B wr (.slice (some ⟨g,0,none⟩) n cap) m)∧Hid (Below B w wr))
   case atStart=>exact⟨i0,i0+1,l,rfl,by go_num,by omega,by omega,by omega,HD,HO1,HB1⟩
   case round=>
    clear HD HO1 HB1;obtain⟨i,j,m,rfl,rfl,hij,hjn,hg2,HD,HO,HB⟩:=hrel;by_cases hlt:j<n
    · have hltz:(j:Int)<(n:Int):=by omega
      obtain⟨y,hy⟩:∃y,l[j]?=some y:=⟨l[j]'(by have:=HN.out;omega),List.getElem?_eq_getElem _⟩;have HY:Hid (l[j]?=some y):=hy;obtain⟨cur,hBg,hh,e1,e2,e3,e4,hcell,hf⟩:=HO.out.block;have hgs:g<wr.heap.size:=(Array.getElem?_eq_some_iff.1 hh).1;obtain⟨c0,c1⟩:=hcell j y (HD.out.at hy);obtain⟨z,hz⟩:∃z,m[i]?=some z:=⟨m[i]'(by have:=HD.out.mlen;omega),List.getElem?_eq_getElem _⟩;obtain⟨d0,d1⟩:=hcell i z hz;have f0:=hf (i*2);have f1:=hf (i*2+1);(have hc:=fun W=>zFj y.1 y.2 W);clear hh e1 e2 e3 e4 hcell hf hy hz;by_cases h0:y.2=0
      · have h0b:(y.2==0)=true:=beq_iff_eq.2 h0
        have HS:Hid (DelAt l i (j+1) n m):=HD.out.skip HY.out h0;clear h0;go_wp2_with (first|(go_at_fn 78;refine(hc _).mono ?_;rintro e w2 ⟨rfl,hb2⟩)|(go_at_call 78;refine(hc _).mono ?_;rintro e w2 ⟨rfl,hb2⟩));go_roundg (n-(j+1));case measure=>omega
        case rel=>
         have hb3:=((Below.refl _ wr).alloc (Nat.le_refl _) _).trans (hb2.mono (by simp));exact⟨i,j+1,m,rfl,by go_num,by omega,by omega,Nat.le_refl _,HS,HO.out.below hb3,HB.out.trans (hb3.mono (Nat.le_trans hB HB.out.size))⟩
      · have h0b:(y.2==0)=false:=beq_eq_false_iff_ne.2 h0
        have HS:Hid (DelAt l (i+1) (j+1) n (m.set i y)):=HD.out.put HY.out h0;clear h0;go_wp2_with (first|(go_at_fn 78;refine(hc _).mono ?_;rintro e w2 ⟨rfl,hb2⟩;obtain⟨q0,q1,q2,q3,q4,q5⟩:=zNx hb2 hgs d0 d1 f0 f1)|(go_at_call 78;refine(hc _).mono ?_;rintro e w2 ⟨rfl,hb2⟩;obtain⟨q0,q1,q2,q3,q4,q5⟩:=zNx hb2 hgs d0 d1 f0 f1));have hb3:=((Below.refl _ wr).alloc (Nat.le_refl _) _).trans (hb2.mono (by simp));have HO2:Hid (POwn B (w2.setCells g (i*2) (encP y)) (.slice (some ⟨g,0,none⟩) n cap) (m.set i y)):=(HO.out.below hb3).set i y;have HB2:Hid (Below B w (w2.setCells g (i*2) (encP y))):=zC6 hBg _ _ _ _ (HB.out.trans (hb3.mono (Nat.le_trans hB HB.out.size)));go_roundg (n-(j+1));(case measure=>omega);case rel=>exact⟨i+1,j+1,m.set i y,by go_num,by go_num,by omega,by omega,Nat.le_refl _,HS,HO2.out,HB2.out⟩
    · have hltz:¬(j:Int)<(n:Int):=by omega
      obtain⟨cur,hBg,hh,e1,e2,e3,e4,hcell,hf⟩:=HO.out.block;(have hic:i<cap:=by omega);(have hin:i<n:=by omega);obtain⟨k,hk⟩:∃k,i+k=n:=⟨n-i,by omega⟩;have HF:Hid (m.take i=keep l):=HD.out.fin hlt;obtain⟨vs,hvs⟩:=zX5 HO.out i k (cap-i) hk 0;have HO2:Hid (POwn B (wr.setCells g (i*2) vs) (.slice (some ⟨g,0,none⟩) i cap) (m.take i)):=HO.out.cut i (by omega) vs;have HB2:Hid (Below B w (wr.setCells g (i*2) vs)):=zC6 hBg _ _ _ _ HB.out;(have eni:n-i=k:=by omega);(have eniz:(n:Int)-(i:Int)=(k:Int):=by omega);clear hh e1 e2 e3 e4 hcell hf;go_wp2;go_ret;refine⟨_,rfl,?_,HB2.out⟩;rw[←HF.out];exact HO2.out
end
section
open Go.RowKit Nums Pm
structure PutAt6(l:List Pr)(p:Pr)(k:Nat)(done:Bool)(acc:List Pr):Prop where
 len:acc.length≤k+(if done then 1 else 0)
 eq:acc++putP zAa p done (l.drop k)=putP zAa p false l
theorem PutAt6.start(l:List Pr)(p:Pr):PutAt6 l p 0 false []:=⟨by simp,by simp⟩
theorem PutAt6.step{l:List Pr}{p:Pr}{k:Nat}{done:Bool}{acc:List Pr}(h:PutAt6 l p k done acc){x:Pr}(hx:l[k]?=some x):
 PutAt6 l p (k+1) (done||!(zAa x.1 p.1)) (acc++(if !done&&!(zAa x.1 p.1)then [p]else [])++(if x.1≠p.1 then [x]else [])):=by
 refine⟨?_,by rw[←h.eq,zCe l k x hx,zVc]⟩;have:=h.len;cases done<;>cases zAa x.1 p.1<;>by_cases e:x.1=p.1<;>simp[e]at this ⊢<;>omega
theorem PutAt6.fin{l:List Pr}{p:Pr}{k:Nat}{done:Bool}{acc:List Pr}(h:PutAt6 l p k done acc)(hk:l.length≤k):acc++(if done then []else [p])=putP zAa p false l:=by
 rw[←h.eq,List.drop_eq_nil_of_le hk];rfl
theorem zSx(w:World)(v:Value)(l:List Pr)(p:Pr)(h:PRow w v l)(hl:l.length<549755813888)(hsm:Sm l)(hps:p.1.size≤9223372036854775807):
 Calls Tryz.prog 51 #[v,.agg #[.string p.1,.int .i64 p.2]] w fun e w'=>∃v',e = .returned v'∧POwn w.heap.size w' v' (put zAa l p)∧Below w.heap.size w w':=by
 obtain⟨ad,cap,rfl⟩:=h.form;have HR:Hid (PRow w (.slice ad l.length cap) l):=h;obtain⟨n,hn⟩:∃n,l.length=n:=⟨_,rfl⟩;have HN:Hid (l.length=n):=hn;have HS:Hid (Sm l):=hsm;have HPS:Hid (p.1.size≤9223372036854775807):=hps;rw[hn]at HR hl;clear h hsm hps;rw[hn];clear hn;go_enter Tryz.func51,Tryz.ntmps51;go_wp2;obtain⟨w1,hw1⟩:∃w1,w1=w.alloc (.cells #[.string p.1,.int .i64 p.2] 75):=⟨_,rfl⟩;rw[←hw1];have HW1:Hid (Below w.heap.size w w1):=by show Below _ _ _;rw[hw1];exact(Below.refl _ w).alloc (Nat.le_refl _) _
 have HTP:Hid (TwoAt w1 w.heap.size 0 p):=by show TwoAt _ _ _ _;rw[hw1];exact TwoAt.new w p _
 have HR1:Hid (PRow w1 (.slice ad n cap) l):=HR.out.below HW1.out;have hbp:w.heap.size<w1.heap.size:=by rw[hw1];simp
 have HFR:Hid (∀W v' m,POwn w1.heap.size W v' m→Below w1.heap.size w1 W→POwn w.heap.size W v' m∧Below w.heap.size w W):=fun W v' m h1 h2=>⟨h1.mono (by omega),HW1.out.trans (h2.mono (by omega))⟩
 clear hw1 HR HW1;generalize hbe:w.heap.size=bp at hbp HTP HFR;have HBE:Hid (w.heap.size=bp):=hbe;clear hbe
 go_loopg [5,6,7] n (fun g s5 s6 s7 wr=>∃(k:Nat) (done:Bool) (acc:List Pr),s6 = .bool done∧s7 = .int .i64 k∧k≤n∧n-k≤g∧Hid (PutAt6 l p k done acc)∧Hid (POwn w1.heap.size wr s5 acc)∧Hid (Below w1.heap.size w1 wr))
 case atStart=>exact⟨0,false,[],rfl,rfl,Nat.zero_le _,by omega,PutAt6.start l p,POwn.nil _ _,Below.refl _ _⟩
 case round=>
  obtain⟨k,done,acc,rfl,rfl,hk,hg,HP,HO,HB⟩:=hrel;by_cases hlt:k<n
  · have hltz:(k:Int)<(n:Int):=by omega
    obtain⟨x,hx⟩:∃x,l[k]?=some x:=⟨l[k]'(by have:=HN.out;omega),List.getElem?_eq_getElem _⟩;obtain⟨b,off,rfl,hb,hcell⟩:=HR1.out.at (by omega);have HX:Hid (l[k]?=some x):=hx;(have HT:Hid (∀W,Below w1.heap.size w1 W→TwoAt W b (off+k*2) x∧TwoAt W bp 0 p):=fun W hW=>⟨(hcell k x hx).below hb hW,HTP.out.below hbp hW⟩);(have hls:=fun W=>zOa x.1 p.1 W (HS.out.at hx) HPS.out);obtain⟨⟨c0,c1⟩,⟨d0,d1⟩⟩:=HT.out wr HB.out;rw[Nat.zero_add]at d1;(have HLZ0:Hid (acc.length≤k+1):=by have:=HP.out.len;show _≤_;cases done<;>simp at this<;>omega);clear hcell hx;cases done
    · cases hlx:zAa x.1 p.1
      · have HSTEP:Hid (∀tail,(if x.1≠p.1 then [x]else [])=tail→PutAt6 l p (k+1) true (acc++[p]++tail)):=by
         show ∀tail,_;intro tail ht;have h:=HP.out.step HX.out;rw[hlx,ht]at h;exact h
        rw[hlx]at hls;clear hlx;go_wp2_with fail;go_quiet (first|(go_at_call 23;refine Calls.quiet_of (hls _)));have HOq:Hid (POwn w1.heap.size (wr.drewN nq) u5 acc):=HO.out.below (belowN (Below.refl _ wr) nq);have hWn:(wr.drewN nq).heap.size=wr.heap.size:=rfl;have HBq:Hid (Below w1.heap.size w1 (wr.drewN nq)):=belowN HB.out nq;go_wp2_with (at_builtin;refine zC3 (by rfl) _ _ p _ rfl w1.heap.size _ _ _ acc rfl HOq.out rfl hWn.symm (by have:=HLZ0.out;omega) HBq.out.size ?_);intro uz wz hr2 hb2;obtain⟨accz,hac⟩:∃accz,accz=acc++[p]:=⟨_,rfl⟩;(have HOz:Hid (POwn w1.heap.size wz uz accz):=by show POwn _ _ _ _;rw[hac];exact hr2);have HBz:Hid (Below w1.heap.size w1 wz):=HBq.out.trans hb2;(have HLZ:Hid (accz.length≤k+2):=by have:=HLZ0.out;show _≤_;rw[hac];simp;omega);rw[←hac]at HSTEP;obtain⟨⟨z0,z1⟩,⟨y0,y1⟩⟩:=HT.out wz HBz.out;rw[Nat.zero_add]at y1;obtain⟨dz,hdz⟩:∃dz,dz=true:=⟨_,rfl⟩;rw[←hdz]at HSTEP;have HDZ:Hid (dz=true):=hdz;clear hr2 hb2 hac HOq HBq hWn c0 c1 d0 d1 hdz;(go_upto_region 9 with fail);by_cases hxp:x.1=p.1
        · have hs:(x.1.toList==p.1.toList)=true:=by rw[zFm];exact decide_eq_true hxp
          have HST:Hid (PutAt6 l p (k+1) dz accz):=by
           have h:=HSTEP.out [] (if_neg (fun e=>e hxp));rw[List.append_nil]at h;exact h
          clear hxp;go_wp2_with fail;go_quiet (fail);have HOy:Hid (POwn w1.heap.size (wz.drewN nq) uz accz):=HOz.out.below (belowN (Below.refl _ wz) nq);have HBy:Hid (Below w1.heap.size w1 (wz.drewN nq)):=belowN HBz.out nq;go_wp2_with fail;go_roundg (n-(k+1));case measure=>omega
          case rel=>
           have HST2:=HST.out;rw[HDZ.out]at HST2;exact⟨k+1,_,_,rfl,by go_num,by omega,Nat.le_refl _,HST2,HOy,HBy⟩
        · have hs:(x.1.toList==p.1.toList)=false:=by rw[zFm];exact decide_eq_false hxp
          have HST:Hid (PutAt6 l p (k+1) dz (accz++[x])):=HSTEP.out [x] (if_pos hxp);clear hxp;go_wp2_with fail;go_quiet (fail);have HOq:Hid (POwn w1.heap.size (wz.drewN nq) uz accz):=HOz.out.below (belowN (Below.refl _ wz) nq);have hWn:(wz.drewN nq).heap.size=wz.heap.size:=rfl;have HBq:Hid (Below w1.heap.size w1 (wz.drewN nq)):=belowN HBz.out nq;go_wp2_with (at_builtin;refine zC3 (by rfl) _ _ x _ rfl w1.heap.size _ _ _ accz rfl HOq.out rfl hWn.symm (by have:=HLZ.out;omega) HBq.out.size ?_);intro v4 w4 hr4 hb4;have HOy:Hid (POwn w1.heap.size w4 v4 (accz++[x])):=hr4;have HBy:Hid (Below w1.heap.size w1 w4):=HBq.out.trans hb4;clear hr4 hb4;go_wp2_with fail;go_roundg (n-(k+1));case measure=>omega
          case rel=>
           have HST2:=HST.out;rw[HDZ.out]at HST2;exact⟨k+1,_,_,rfl,by go_num,by omega,Nat.le_refl _,HST2,HOy,HBy⟩
      · have HSTEP:Hid (∀tail,(if x.1≠p.1 then [x]else [])=tail→PutAt6 l p (k+1) false (acc++tail)):=by
         show ∀tail,_;intro tail ht;have h:=HP.out.step HX.out;rw[hlx,ht]at h;simpa using h
        rw[hlx]at hls;clear hlx;go_wp2_with fail;go_quiet (first|(go_at_call 23;refine Calls.quiet_of (hls _)));obtain⟨accz,hac⟩:∃accz,accz=acc:=⟨_,rfl⟩;obtain⟨uz,huz⟩:∃uz,uz=u5:=⟨_,rfl⟩;obtain⟨dz,hdz⟩:∃dz,dz=false:=⟨_,rfl⟩;rw[←hac,←hdz]at HSTEP;rw[←hac,←huz]at HO;rw[←huz];have HDZ:Hid (dz=false):=hdz;(have HLZ:Hid (accz.length≤k+2):=by have:=HLZ0.out;show _≤_;rw[hac];omega);clear hac hdz huz;obtain⟨wz,hwz⟩:∃wz,wz=wr.drewN nq:=⟨_,rfl⟩;rw[←hwz];(have HOz:Hid (POwn w1.heap.size wz uz accz):=by show POwn _ _ _ _;rw[hwz];exact HO.out.below (belowN (Below.refl _ wr) nq));(have HBz:Hid (Below w1.heap.size w1 wz):=by show Below _ _ _;rw[hwz];exact belowN HB.out nq);obtain⟨⟨z0,z1⟩,⟨y0,y1⟩⟩:=HT.out wz HBz.out;rw[Nat.zero_add]at y1;clear hwz c0 c1 d0 d1;(go_upto_region 9 with fail);by_cases hxp:x.1=p.1
        · have hs:(x.1.toList==p.1.toList)=true:=by rw[zFm];exact decide_eq_true hxp
          have HST:Hid (PutAt6 l p (k+1) dz accz):=by
           have h:=HSTEP.out [] (if_neg (fun e=>e hxp));rw[List.append_nil]at h;exact h
          clear hxp;go_wp2_with fail;go_quiet (fail);have HOy:Hid (POwn w1.heap.size (wz.drewN nq) uz accz):=HOz.out.below (belowN (Below.refl _ wz) nq);have HBy:Hid (Below w1.heap.size w1 (wz.drewN nq)):=belowN HBz.out nq;go_wp2_with fail;go_roundg (n-(k+1));case measure=>omega
          case rel=>
           have HST2:=HST.out;rw[HDZ.out]at HST2;exact⟨k+1,_,_,rfl,by go_num,by omega,Nat.le_refl _,HST2,HOy,HBy⟩
        · have hs:(x.1.toList==p.1.toList)=false:=by rw[zFm];exact decide_eq_false hxp
          have HST:Hid (PutAt6 l p (k+1) dz (accz++[x])):=HSTEP.out [x] (if_pos hxp);clear hxp;go_wp2_with fail;go_quiet (fail);have HOq:Hid (POwn w1.heap.size (wz.drewN nq) uz accz):=HOz.out.below (belowN (Below.refl _ wz) nq);have hWn:(wz.drewN nq).heap.size=wz.heap.size:=rfl;have HBq:Hid (Below w1.heap.size w1 (wz.drewN nq)):=belowN HBz.out nq;go_wp2_with (at_builtin;refine zC3 (by rfl) _ _ x _ rfl w1.heap.size _ _ _ accz rfl HOq.out rfl hWn.symm (by have:=HLZ.out;omega) HBq.out.size ?_);intro v4 w4 hr4 hb4;have HOy:Hid (POwn w1.heap.size w4 v4 (accz++[x])):=hr4;have HBy:Hid (Below w1.heap.size w1 w4):=HBq.out.trans hb4;clear hr4 hb4;go_wp2_with fail;go_roundg (n-(k+1));case measure=>omega
          case rel=>
           have HST2:=HST.out;rw[HDZ.out]at HST2;exact⟨k+1,_,_,rfl,by go_num,by omega,Nat.le_refl _,HST2,HOy,HBy⟩
    · have HSTEP:Hid (∀tail,(if x.1≠p.1 then [x]else [])=tail→PutAt6 l p (k+1) true (acc++tail)):=by
       show ∀tail,_;intro tail ht;have h:=HP.out.step HX.out;rw[ht]at h;simpa using h
      go_wp2_with fail;go_quiet (fail);obtain⟨accz,hac⟩:∃accz,accz=acc:=⟨_,rfl⟩;obtain⟨uz,huz⟩:∃uz,uz=u5:=⟨_,rfl⟩;obtain⟨dz,hdz⟩:∃dz,dz=true:=⟨_,rfl⟩;rw[←hac,←hdz]at HSTEP;rw[←hac,←huz]at HO;rw[←huz];have HDZ:Hid (dz=true):=hdz;(have HLZ:Hid (accz.length≤k+2):=by have:=HLZ0.out;show _≤_;rw[hac];omega);clear hac hdz huz;obtain⟨wz,hwz⟩:∃wz,wz=wr.drewN nq:=⟨_,rfl⟩;rw[←hwz];(have HOz:Hid (POwn w1.heap.size wz uz accz):=by show POwn _ _ _ _;rw[hwz];exact HO.out.below (belowN (Below.refl _ wr) nq));(have HBz:Hid (Below w1.heap.size w1 wz):=by show Below _ _ _;rw[hwz];exact belowN HB.out nq);obtain⟨⟨z0,z1⟩,⟨y0,y1⟩⟩:=HT.out wz HBz.out;rw[Nat.zero_add]at y1;clear hwz c0 c1 d0 d1;(go_upto_region 9 with fail);by_cases hxp:x.1=p.1
      · have hs:(x.1.toList==p.1.toList)=true:=by rw[zFm];exact decide_eq_true hxp
        have HST:Hid (PutAt6 l p (k+1) dz accz):=by
         have h:=HSTEP.out [] (if_neg (fun e=>e hxp));rw[List.append_nil]at h;exact h
        clear hxp;go_wp2_with fail;go_quiet (fail);have HOy:Hid (POwn w1.heap.size (wz.drewN nq) uz accz):=HOz.out.below (belowN (Below.refl _ wz) nq);have HBy:Hid (Below w1.heap.size w1 (wz.drewN nq)):=belowN HBz.out nq;go_wp2_with fail;go_roundg (n-(k+1));case measure=>omega
        case rel=>
         have HST2:=HST.out;rw[HDZ.out]at HST2;exact⟨k+1,_,_,rfl,by go_num,by omega,Nat.le_refl _,HST2,HOy,HBy⟩
      · have hs:(x.1.toList==p.1.toList)=false:=by rw[zFm];exact decide_eq_false hxp
        have HST:Hid (PutAt6 l p (k+1) dz (accz++[x])):=HSTEP.out [x] (if_pos hxp);clear hxp;go_wp2_with fail;go_quiet (fail);have HOq:Hid (POwn w1.heap.size (wz.drewN nq) uz accz):=HOz.out.below (belowN (Below.refl _ wz) nq);have hWn:(wz.drewN nq).heap.size=wz.heap.size:=rfl;have HBq:Hid (Below w1.heap.size w1 (wz.drewN nq)):=belowN HBz.out nq;go_wp2_with (at_builtin;refine zC3 (by rfl) _ _ x _ rfl w1.heap.size _ _ _ accz rfl HOq.out rfl hWn.symm (by have:=HLZ.out;omega) HBq.out.size ?_);intro v4 w4 hr4 hb4;have HOy:Hid (POwn w1.heap.size w4 v4 (accz++[x])):=hr4;have HBy:Hid (Below w1.heap.size w1 w4):=HBq.out.trans hb4;clear hr4 hb4;go_wp2_with fail;go_roundg (n-(k+1));case measure=>omega
        case rel=>
         have HST2:=HST.out;rw[HDZ.out]at HST2;exact⟨k+1,_,_,rfl,by go_num,by omega,Nat.le_refl _,HST2,HOy,HBy⟩
  · have hltz:¬(k:Int)<(n:Int):=by omega
    cases done
    · have HF:Hid (acc++[p]=putP zAa p false l):=by show _=_;have:=HP.out.fin (by have:=HN.out;omega);simpa using this
      obtain⟨d0,d1⟩:=HTP.out.below hbp HB.out;rw[Nat.zero_add]at d1;(have HL0:Hid (acc.length≤k):=by have:=HP.out.len;show _≤_;simpa using this);go_wp2_with (at_builtin;refine zC3 (by rfl) _ _ p _ rfl w1.heap.size _ _ _ acc rfl HO.out rfl rfl (by have:=HL0.out;omega) HB.out.size ?_);intro v2 w2 hr2 hb2;go_wp2_with fail;go_ret;obtain⟨r1,r2⟩:=HFR.out _ _ _ hr2 (HB.out.trans hb2);rw[HBE.out];refine⟨_,rfl,?_,r2⟩;show POwn _ _ _ (putP zAa p false l);rw[←HF.out];exact r1
    · have HF:Hid (acc=putP zAa p false l):=by show _=_;have:=HP.out.fin (by have:=HN.out;omega);simpa using this
      go_wp2;go_ret;obtain⟨r1,r2⟩:=HFR.out _ _ _ HO.out HB.out;rw[HBE.out];refine⟨_,rfl,?_,r2⟩;show POwn _ _ _ (putP zAa p false l);rw[←HF.out];exact r1
theorem zRr:∀(l a:List Pr),(l.foldl (put zAa) a).length≤a.length+l.length
 |[],a=>by simp
 |x::r,a=>by
  have h:=zRr r (put zAa a x);have h2:(put zAa a x).length≤a.length+1:=by
   have:=(PutAt6.mk (l:=a) (p:=x) (k:=0) (done:=false) (acc:=[]) (by simp) (by simp));clear this
   suffices H:∀(a:List Pr) (d:Bool),(putP zAa x d a).length≤a.length+(if d then 0 else 1)from H a false
   intro a
   induction a with
   |nil=>intro d;cases d<;>simp[putP]
   |cons y a ih=>
    intro d;rw[putP];have h1:=ih true;have h0:=ih false;cases d<;>cases zAa y.1 x.1<;>by_cases e:y.1=x.1<;>simp[e]at h1 h0 ⊢<;>omega
  rw[List.foldl_cons,List.length_cons];omega
theorem zHe(l:List Pr):(norm zAa l).length≤l.length:=by have:=zRr l [];simpa[norm]using this
theorem norm_mem{l:List Pr}{x:Pr}(h:x∈norm zAa l):x∈l:=by
 have e:=SUp.find_of_mem lessB_sto (zEa lessB_sto l) h;rw[zCq lessB_sto]at e;exact find_mem e
theorem Sm.norm{l:List Pr}(h:Sm l):Sm (Pm.norm zAa l):=fun x hx=>h x (norm_mem hx)
theorem zY1(w:World)(u v:Value)(l m:List Pr)(h1:PRow w u l)(h2:PRow w v m)(hl:l.length<137438953472)(hm:m.length<137438953472):
 Calls Tryz.prog 39 #[u,v] w fun e w'=>∃v',e = .returned v'∧POwn w.heap.size w' v' (zAe zAa l m)∧Below w.heap.size w w':=by
 obtain⟨ad1,cap1,rfl⟩:=h1.form;obtain⟨ad2,cap2,rfl⟩:=h2.form;have HC:Hid (∀o,PRow (w.alloc o) (.slice ad1 l.length cap1) l∧PRow (w.alloc o) (.slice ad2 m.length cap2) m∧Below w.heap.size w (w.alloc o)):=fun o=>⟨h1.below ((Below.refl _ w).alloc (Nat.le_refl _) o),h2.below ((Below.refl _ w).alloc (Nat.le_refl _) o),(Below.refl _ w).alloc (Nat.le_refl _) o⟩
 have HL:Hid ((l++m).length<549755813888):=by show _<_;simp;omega
 clear h1 h2;go_enter Tryz.func39,Tryz.ntmps39;go_wp2_with (go_at_call 77;refine(inOrder_any _ _ _ _ (l++m) HL.out (zP8 _ _ _ _ _ l m (HC.out _).1 (HC.out _).2.1 (by omega) (by omega) (by simp) (by simp) (by simp))).mono ?_;rintro e w1 ⟨v1,rfl,ho1,hb1⟩);have HB1:Hid (Below w.heap.size w w1):=(HC.out _).2.2.trans (hb1.mono (HC.out _).2.2.size);have HO1:Hid (POwn w.heap.size w1 v1 (norm zAa (l++m))):=ho1.mono (HC.out _).2.2.size;clear ho1 hb1 HC;go_wp2_with (go_at_call 76;refine(zJd w.heap.size w1 v1 _ HO1.out (by have:=zHe (l++m);have:=HL.out;omega) HB1.out.size).mono ?_;rintro e w2 ⟨v2,rfl,ho2,hb2⟩);go_ret;exact⟨v2,rfl,ho2,HB1.out.trans hb2⟩
end
section
open Go.RowKit Nums Fm Pm
namespace Di
section
variable {κ:Type} [DecidableEq κ] {less:κ→κ→Bool}
theorem zK3(o:STO less)(p:κ×Int):∀l:List (κ×Int),SUp less l→(putP less p false l).length+(if (Pm.find l p.1).isSome then 1 else 0)=l.length+1
 |[],_=>rfl
 |x::r,h=>by
  obtain⟨h1,h2⟩:=List.pairwise_cons.1 h;have ih:=zK3 o p r h2;cases e:less x.1 p.1 with
  |true=>
   have hne:=o.ne e;(have he:putP less p false (x::r)=x::putP less p false r:=by rw[putP];simp[e,hne]);rw[he,find_cons,if_neg hne,Option.or_none,List.length_cons,List.length_cons];omega
  |false=>
   by_cases hx:x.1=p.1
   · have hd:=zD6 o p r h2 fun y hy=>by rw[←hx];exact h1 y hy
     (have he:putP less p false (x::r)=p::r:=by rw[putP,if_neg (show ¬x.1≠p.1 from fun h=>h hx),e];simp[hd]);(have hf:Pm.find (x::r) p.1=some x.2:=by rw[←hx];exact SUp.find_of_mem o h (List.mem_cons_self ..));rw[he,hf];simp
   · have hpx:less p.1 x.1=true:=by
      cases e2:less p.1 x.1 with
      |true=>rfl
      |false=>exact absurd (o.tot _ _ e e2) hx
     (have hd:=zD6 o p r h2 fun y hy=>o.tr _ _ _ hpx (h1 y hy));(have he:putP less p false (x::r)=p::x::r:=by rw[putP];simp[e,hx,hd]);have hf:Pm.find (x::r) p.1=none:=zAy fun z hz=>by
      rcases List.mem_cons.1 hz with rfl|hm
      · exact(o.ne hpx).symm
      · exact(o.ne (o.tr _ _ _ hpx (h1 z hm))).symm
     rw[he,hf];simp
def out(k:κ)(l:List (κ×Int)):List (κ×Int):=l.filter fun x=>decide (x.1≠k)
theorem out_up{l:List (κ×Int)}(h:SUp less l)(k:κ):SUp less (out k l):=List.Pairwise.filter _ h
theorem zQ4(k k':κ):∀l:List (κ×Int),Pm.find (out k l) k'=if k=k' then none else Pm.find l k'
 |[]=>by rw[show out k ([]:List (κ×Int))=[]from rfl,zEw];split<;>rfl
 |x::r=>by
  have ih:=zQ4 k k' r;by_cases hx:x.1=k
  · have e:out k (x::r)=out k r:=by simp[out,hx]
    rw[e,ih,find_cons];by_cases hk:k=k'
    · simp[hk]
    · have:¬x.1=k':=by rw[hx];exact hk
      simp[hk,this]
  · have e:out k (x::r)=x::out k r:=by simp[out,hx]
    rw[e,find_cons,ih,find_cons];by_cases hk:k=k'
    · have:¬x.1=k':=by rw[←hk];exact hx
      simp[hk,this]
    · simp[hk]
theorem zVm(o:STO less)(k:κ):∀l:List (κ×Int),SUp less l→(out k l).length+(if (Pm.find l k).isSome then 1 else 0)=l.length
 |[],_=>rfl
 |x::r,h=>by
  obtain⟨h1,h2⟩:=List.pairwise_cons.1 h;have ih:=zVm o k r h2;by_cases hx:x.1=k
  · have e:out k (x::r)=out k r:=by simp[out,hx]
    (have hn:Pm.find r k=none:=zAy fun z hz=>by rw[←hx];exact(o.ne (h1 z hz)).symm);(have hf:Pm.find (x::r) k=some x.2:=by rw[←hx];exact SUp.find_of_mem o h (List.mem_cons_self ..));rw[hn]at ih;rw[e,hf,List.length_cons];simpa using ih
  · have e:out k (x::r)=x::out k r:=by simp[out,hx]
    rw[e,find_cons,if_neg hx,Option.or_none,List.length_cons,List.length_cons];omega
def Nz(l:List (κ×Int)):Prop:=∀x∈l,x.2≠0
theorem Nz.find{l:List (κ×Int)}(h:Nz l){k:κ}{v:Int}(hf:Pm.find l k=some v):v≠0:=h (k,v) (find_mem hf)
theorem zLc(a b:List (κ×Int)):Nz (zAe less a b):=fun x hx=>by
 have:=(List.mem_filter.1 hx).2;simpa using this
theorem zNa(o:STO less){m:List (κ×Int)}(h:SUp less m)(hz:Nz m)(p:κ×Int):zAe less m [p]=if p.2=0 then out p.1 m else put less m p:=by
 by_cases h0:p.2=0
 · rw[if_pos h0]
   (refine SUp.ext o (zBp o _ _) (out_up h _) fun k=>?_);rw[zA2 o,zF4,zQ4];by_cases hk:p.1=k
   · simp[hk,h0,Option.filter]
   · rw[if_neg hk,if_neg hk,Option.none_or]
     cases hf:Pm.find m k with
     |none=>rfl
     |some v=>have:=hz.find hf;simp[Option.filter,this]
 · rw[if_neg h0]
   obtain⟨i1,_,i3⟩:=zK2 o p m h;(refine SUp.ext o (zBp o _ _) i1 fun k=>?_);rw[zA2 o,zF4,put,i3];by_cases hk:p.1=k
   · simp[hk,h0,Option.filter]
   · rw[if_neg hk,if_neg hk,Option.none_or]
     cases hf:Pm.find m k with
     |none=>rfl
     |some v=>have:=hz.find hf;simp[Option.filter,this]
theorem zLb(o:STO less){m:List (κ×Int)}(h:SUp less m)(hz:Nz m)(p:κ×Int):(zAe less m [p]).length+(if (Pm.find m p.1).isSome then 1 else 0)=m.length+(if p.2=0 then 0 else 1):=by
 rw[zNa o h hz];by_cases h0:p.2=0
 · rw[if_pos h0,if_pos h0];exact zVm o p.1 m h
 · rw[if_neg h0,if_neg h0];exact zK3 o p m h
theorem zS7(o:STO less)(a b:List (κ×Int)):zAe less a (norm less b)=zAe less a b:=
 SUp.ext o (zBp o _ _) (zBp o _ _) fun k=>by rw[zA2 o,zA2 o,zCq o]
theorem zJv(o:STO less){a:List (κ×Int)}(h:SUp less a)(hz:Nz a):zAe less a []=a:=
 SUp.ext o (zBp o _ _) h fun k=>by
  rw[zA2 o,zEw,Option.none_or];cases hf:Pm.find a k with
  |none=>rfl
  |some v=>have:=hz.find hf;simp[Option.filter,this]
theorem put_same(o:STO less){m:List (κ×Int)}(h:SUp less m){p:κ×Int}(hf:Pm.find m p.1=some p.2):put less m p=m:=by
 obtain⟨i1,_,i3⟩:=zK2 o p m h;refine SUp.ext o i1 h fun k=>?_
 rw[put,i3];by_cases hk:p.1=k
 · rw[if_pos hk,←hk,hf]
 · rw[if_neg hk]
theorem zJb(o:STO less){l:List (κ×Int)}(h:SUp less l){j:Nat}{p:κ×Int}(hj:l[j]?=some p):Pm.find (l.take j) p.1=none:=by
 refine zAy fun z hz=>?_
 obtain⟨i,hi,rfl⟩:=List.getElem_of_mem hz;rw[List.length_take]at hi;obtain⟨hjl,rfl⟩:=List.getElem?_eq_some_iff.1 hj;rw[List.getElem_take];exact o.ne (List.pairwise_iff_getElem.1 h i j (by omega) hjl (by omega))
theorem len_step(o:STO less){base over:List (κ×Int)}(hu:SUp less over){j:Nat}{p:κ×Int}(hj:over[j]?=some p)(hz:Nz base):
 (zAe less base (over.take (j+1))).length+(if (Pm.find base p.1).isSome then 1 else 0)=(zAe less base (over.take j)).length+(if p.2=0 then 0 else 1):=by
 obtain⟨hjl,e⟩:=List.getElem?_eq_some_iff.1 hj;have h1:over.take (j+1)=over.take j++[p]:=by rw[List.take_succ_eq_append_getElem hjl,e]
 rw[h1,←zH9 o];have h2:=zLb o (zBp o base (over.take j)) (zLc base (over.take j)) p;have h3:Pm.find (zAe less base (over.take j)) p.1=Pm.find base p.1:=by
  rw[zA2 o,zJb o hu hj,Option.none_or];cases hf:Pm.find base p.1 with
  |none=>rfl
  |some v=>have:=hz.find hf;simp[Option.filter,this]
 rw[h3]at h2;exact h2
end
theorem zRu:∀(l:List Pr) (p:Option Pr),(∀x∈l,zAq x.1.data.toList=true∧1≤x.2∧x.2≤1048576)→SUp zAa l→(∀q,p=some q→∀x∈l,zAa q.1 x.1=true)→zBc p l=0
 |[],_,_,_,_=>rfl
 |x::r,p,h1,h2,h3=>by
  obtain⟨g1,g2,g3⟩:=h1 x (List.mem_cons_self ..);obtain⟨k1,k2⟩:=List.pairwise_cons.1 h2;have hp:zFs p x=true:=by
   cases p with
   |none=>rfl
   |some q=>exact h3 q rfl x (List.mem_cons_self ..)
  have e:oneF p x=0:=by
   unfold oneF;rw[if_neg (by rw[g1];decide),if_neg (by omega),if_neg (by rw[hp];decide)]
  rw[zBc,if_pos e];exact zRu r (some x) (fun y hy=>h1 y (List.mem_cons_of_mem _ hy)) k2 (fun q hq y hy=>by cases hq;exact k1 y hy)
theorem built_of{l:List Pr}(h1:∀x∈l,zAq x.1.data.toList=true∧1≤x.2∧x.2≤1048576)(h2:SUp zAa l)(h3:l.length≤4096):zAl l=0:=by
 unfold zAl;rw[if_neg (by omega)];exact zRu l none h1 h2 (fun q hq=>by cases hq)
theorem zGb{l:List Pr}(h:zAl l=0):SUp zAa l:=(zAp h).2.1
theorem zHq{l:List Pr}(h:zAl l=0):Nz l:=fun x hx=>by have:=((zAp h).1 x hx).2.1;omega
structure Dok(base over:List Pr):Prop where
 ok:zAl base=0
 up:SUp zAa over
 wd:∀x∈over,zAq x.1.data.toList=true∧0≤x.2∧x.2≤1048576
 few:over.length≤33
 len:(zAe zAa base over).length≤4096
theorem Dok.all{base over:List Pr}(h:Dok base over):zAl (zAe zAa base over)=0:=by
 refine built_of (fun x hx=>?_) (zBp lessB_sto _ _) h.len;have hn:=zLc base over x hx;have hf:=SUp.find_of_mem lessB_sto (zBp lessB_sto base over) hx;rw[zA2 lessB_sto]at hf;cases ho:Pm.find over x.1 with
 |some v=>
  rw[ho,Option.some_or]at hf;have e:v=x.2:=by
   by_cases h0:v=0
   · simp[h0,Option.filter]at hf
   · simp[h0,Option.filter]at hf;exact hf
  obtain⟨g1,g2,g3⟩:=h.wd _ (find_mem ho);simp only at g1 g2 g3;exact⟨g1,by omega,by omega⟩
 |none=>
  rw[ho,Option.none_or]at hf;cases hb:Pm.find base x.1 with
  |none=>rw[hb]at hf;cases hf
  |some v=>
   rw[hb]at hf;have e:v=x.2:=by
    by_cases h0:v=0
    · simp[h0,Option.filter]at hf
    · simp[h0,Option.filter]at hf;exact hf
   obtain⟨g1,g2,g3⟩:=(zAp h.ok).1 _ (find_mem hb);simp only at g1 g2 g3;exact⟨g1,by omega,by omega⟩
theorem Dok.start{l:List Pr}(h:zAl l=0):Dok l []∧zAe zAa l []=l:=by
 have e:=zJv lessB_sto (zGb h) (zHq h);exact⟨⟨h,List.Pairwise.nil,fun x hx=>(by cases hx),(by simp),(by rw[e];exact(zAp h).2.2)⟩,e⟩
theorem Dok.find{base over:List Pr}(h:Dok base over)(s:ByteArray):Pm.find (zAe zAa base over) s=match Pm.find over s with|some v=>if v=0 then none else some v|none=>Pm.find base s:=by
 rw[zA2 lessB_sto];cases ho:Pm.find over s with
 |some v=>by_cases h0:v=0<;>simp[h0,Option.filter]
 |none=>
  rw[Option.none_or];cases hb:Pm.find base s with
  |none=>rfl
  |some v=>have:=(zHq h.ok).find hb;simp[Option.filter,this]
theorem Dok.change(base over:List Pr)(p:Pr):zAe zAa base (norm zAa (over++[p]))=if p.2=0 then out p.1 (zAe zAa base over)else put zAa (zAe zAa base over) p:=by
 rw[zS7 lessB_sto,←zH9 lessB_sto,zNa lessB_sto (zBp lessB_sto _ _) (zLc _ _)]
theorem Dok.next{base over:List Pr}(h:Dok base over){p:Pr}(hw:zAq p.1.data.toList=true)(h0:0≤p.2)(h1:p.2≤1048576)(hl:(zAe zAa base (norm zAa (over++[p]))).length≤4096)(hf:(norm zAa (over++[p])).length≤33):Dok base (norm zAa (over++[p])):=by
 refine⟨h.ok,zEa lessB_sto _,fun x hx=>?_,hf,hl⟩;have hfd:=SUp.find_of_mem lessB_sto (zEa lessB_sto (over++[p])) hx;rw[zCq lessB_sto]at hfd;have hm:=find_mem hfd;rcases List.mem_append.1 hm with hm|hm
 · exact h.wd _ hm
 · have e:=List.mem_singleton.1 hm
   have e1:x.1=p.1:=congrArg Prod.fst e;have e2:x.2=p.2:=congrArg Prod.snd e;rw[e1,e2];exact⟨hw,h0,h1⟩
theorem Dok.sm{base over:List Pr}(h:Dok base over):Sm over∧Sm base:=⟨fun x hx=>by
 obtain⟨_,_,_,_,hs96,_⟩:=zA3 (x:=x) (h.wd x hx).1;omega,fun x hx=>by
 obtain⟨_,_,_,_,hs96,_⟩:=zA3 (x:=x) ((zAp h.ok).1 x hx).1;omega⟩
end Di
end
section
open Go.RowKit Go.Shelf Nums Fm Pk
attribute [local go_sem] Oper.semAt_some
namespace Di
structure CoI(w:World)(lb:Nat)(A:Nat→Prop)(pre:List Pr)(W:World):Prop where
 bel:Below w.heap.size w W
 lo:w.heap.size≤lb
 loA:∀k,A k→w.heap.size≤k
 ex:∃v,W.heap[lb]?=some (.cells #[v] 22)∧POwn w.heap.size W v pre∧v.ownBlock≠some lb∧∀k,k=lb∨v.ownBlock=some k→A k
theorem zDd{B:Nat}{w w':World}{v:Value}{l:List Pr}(h:POwn B w v l)(hs:∀g,v.ownBlock=some g→w'.heap[g]?=w.heap[g]?):POwn B w' v l:=by
 obtain⟨hl,hn|⟨g,cap,cur,rfl,h1,hg,h2⟩⟩:=h
 · exact⟨hl,.inl hn⟩
 · exact⟨hl,.inr ⟨g,cap,cur,rfl,h1,(hs g rfl).trans hg,h2⟩⟩
theorem zA1{B:Nat}{w:World}{v:Value}{l:List Pr}(h:POwn B w v l){g:Nat}(hg:v.ownBlock=some g):B≤g∧g<w.heap.size:=by
 obtain⟨hl,⟨rfl,_⟩|⟨g',cap,cur,rfl,h1,hh,h2⟩⟩:=h
 · cases hg
 · cases hg;exact⟨h1,(Array.getElem?_eq_some_iff.1 hh).1⟩
theorem CoI.minds{w:World}{lb B:Nat}(hl:lb<B):zGf B (CoI w lb):=by
 rintro A pre W W' ⟨h1,h2,h3,v,h4,h5,h6,h7⟩ hu;have hA:∀k,k<W.heap.size→A k→¬(¬A k∧B≤k):=fun k _ ha hn=>hn.1 ha
 exact⟨h1.trans (hu.below h1.size fun k hk=>by omega),h2,h3,v,(hu.block lb (Array.getElem?_eq_some_iff.1 h4).1 (fun hn=>by omega)).trans h4,zDd h5 fun g hg=>hu.block g (zA1 h5 hg).2 (hA g (zA1 h5 hg).2 (h7 g (.inr hg))),h6,h7⟩
theorem zT2{F:Fence}{n:Nat}{W:World}{ops:Array Oper}{rest:List Oper}{o:Oper}{a:Act}{Q:Exit→Act→World→Prop}(hgd:o.guard=none)(s y:Operand)(x:Pr)(T:TypeId)
 (ho:o.op = .call { callee := .builtin .append,args:=#[s,y],argTypes:=#[22,22] }) (B nb c:Nat) (v:Value) (l:List Pr) (hs:a.eval s=v) (hown:POwn B W v l) (hy:a.eval y = .slice (some ⟨nb,0,none⟩) 1 c) (hnb:nb=W.heap.size) (h63:l.length<2199023255552) (hB:B≤W.heap.size)
 (h:∀v' w',POwn B w' v' (l++[x])→(W.alloc (.cells #[.string x.1,.int .i64 x.2] T)).grownBy w' v.ownBlock→(v'.ownBlock=v.ownBlock∨v'.ownBlock=some (W.heap.size+1))→wpListIn F n Tryz.prog ops Q rest (a.put o.dst v') w'):wpListIn F n Tryz.prog ops Q (o::rest) a (W.alloc (.cells #[.string x.1,.int .i64 x.2] T)):=by
 subst hnb;obtain⟨i0,hi,hz0,hz1,hz2⟩:=info_parts zW2;have hbA:Below W.heap.size W (W.alloc (.cells #[.string x.1,.int .i64 x.2] T)):=(Below.refl _ W).alloc (Nat.le_refl _) _;have ho2:POwn B (W.alloc (.cells #[.string x.1,.int .i64 x.2] T)) v l:=hown.below hbA;refine wpListIn_append_own_at _ hgd s y 22 ho B 75 i0 _ 2 24 Tryz.underlying22 hi hz0 hz1 hz2 rfl (by decide) v l.length (zB2 l) hs ho2 ⟨W.heap.size,0,none⟩ 1 c [.string x.1,.int .i64 x.2] hy rfl ?_ ?_ (by simp only[maxLen];omega) (by omega) (by simp;omega) ?_
 · intro j u hj
   match j,hj with
   |0,hj=>simp at hj;subst hj;simp[Addr.add]
   |1,hj=>simp at hj;subst hj;simp[Addr.add]
   |k+2,hj=>simp at hj
 · intro u hu
   simp at hu;rcases hu with rfl|rfl<;>rfl
 · intro v' w' h1 h2 _ h4
   refine h v' w' ?_ h2 (h4.imp id (fun e=>by rw[e];simp));unfold POwn;rw[List.length_append,List.length_singleton,zPt];exact h1
theorem zL0(w:World)(c0 c1:Value)(S:(Nat→Prop)→World→Prop)(L:List Pr)(hL:L.length≤1048576)(hseq:SeqIs S 114 #[c0,c1] L)(hS:∀W A,Below w.heap.size w W→(∀k,A k→w.heap.size≤k)→S A W):
 Calls Tryz.prog 79 #[.slice none 0 0,.func (.func 114) #[] #[c0,c1]] w fun e w'=>∃v,e = .returned v∧POwn w.heap.size w' v L∧Below w.heap.size w w':=by
 obtain⟨lb,hlb⟩:∃lb,lb=w.heap.size:=⟨_,rfl⟩;obtain⟨W0,hW0⟩:∃W0,W0=w.alloc (.cells #[.slice none 0 0] 22):=⟨_,rfl⟩;have hb0:Below w.heap.size w W0:=by rw[hW0];exact(Below.refl _ w).alloc (Nat.le_refl _) _
 have hs0:W0.heap.size=w.heap.size+1:=by rw[hW0];simp
 have hl0:W0.heap[lb]?=some (.cells #[.slice none 0 0] 22):=by rw[hW0,hlb];exact zAb _ _
 have hI0:CoI w lb (fun j=>j=lb) [] W0:=⟨hb0,by omega,fun k e=>by omega,_,hl0,POwn.nil _ _,fun e=>(by cases e),fun k e=>(by rcases e with e|e;exact e;cases e)⟩;refine(callsIn_wide (n:=0)).1 (callsIn_of_wp_marks Tryz.func79 rfl trivial ?_ rfl);refine wpIn_wide.2 ?_;simp only[Tryz.ntmps79,List.size_toArray,List.length_cons,List.length_nil,Nat.reduceAdd,Nat.reduceSub,Array.replicate_succ,Array.replicate_zero,List.push_toArray,List.append_toArray,List.nil_append,List.cons_append];go_upto_region 1 with fail
 rw[←hlb,←hW0];clear hW0;go_wp2;refine zUb (gf:=114) (lb:=#[c0,c1]) rfl (enters_of Tryz.func114 (by kernel_rfl) rfl) hseq rfl (CoI w lb) (fun _ _ _ _=>False) (fun j=>j=lb) ?_ ?_ (CoI.minds (by omega)) (fun _ _ _ _ _ h _=>h) hI0 ?_ ?_ ?_
 · intro j hj;omega
 · intro W hb
   exact hS W _ (hb0.trans (hb.mono hb0.size)) (fun j hj=>by omega)
 · rintro n lp A pre x W hpx ⟨h1,h2,h3,v,h4,h5,h6,h7⟩ hl hnl hlt
   obtain⟨x1,x2⟩:=x;simp only[zS3];(have hplen:pre.length<1048576:=by have:=hpx.length_le;rw[List.length_append,List.length_singleton]at this;omega);obtain⟨vd,vc,hvv⟩:=h5.shape;subst hvv;have HS0:Hid (W0.heap.size=w.heap.size+1∧lb=w.heap.size):=⟨hs0,hlb⟩;clear hpx hL hseq hS hs0 hlb
   gi_wp2
   refine⟨Upd.of_below ((Below.refl _ W).alloc (Nat.le_refl _) _),fun W2 hu2=>?_⟩;obtain⟨hz1,hz2⟩:=HS0.out;have hua:Upd (fun j=>j=W0.heap.size+1) W W2:=(Upd.of_below (F:=fun j=>j=W0.heap.size+1) ((Below.refl _ W).alloc (Nat.le_refl _) _)).trans hu2 (fun _ _ g=>g);(have hl2:Lies A W2:=fun j hj=>Nat.lt_of_lt_of_le (hl j hj) hua.size);have hI2:CoI w lb A pre W2:=CoI.minds (B:=W0.heap.size) (by omega) A pre W W2 ⟨h1,h2,h3,_,h4,h5,h6,h7⟩ (hua.mono fun k e=>⟨by rw[e];exact hnl,by omega⟩);have hlbW:=(Array.getElem?_eq_some_iff.1 h4).1;have hl4:W2.heap[lb]?=some (.cells #[.slice vd pre.length vc] 22):=(hua.block lb hlbW (fun e=>by omega)).trans h4;(have ho2:POwn w.heap.size W2 (.slice vd pre.length vc) pre:=zDd h5 fun g hg=>hua.block g (zA1 h5 hg).2 (fun e=>hnl (e▸h7 g (.inr hg))));have hp2:W2.heap[W.heap.size]?=some (.cells #[.string x1,.int .i64 x2] 75):=(hu2.block W.heap.size (by simp) (fun e=>by omega)).trans (zAb _ _);obtain⟨pb,hpb⟩:∃pb,pb=W.heap.size:=⟨_,rfl⟩;rw[←hpb]at hp2 ⊢;(have p0:W2.cell? ⟨pb,0,none⟩=some (.string x1):=by simp[World.cell?,hp2]);(have p1:W2.cell? ⟨pb,1,none⟩=some (.int .i64 x2):=by simp[World.cell?,hp2]);(have l0:W2.cell? ⟨lb,0,none⟩=some (.slice vd pre.length vc):=by simp[World.cell?,hl4]);have HO2:Hid (POwn w.heap.size W2 (.slice vd pre.length vc) pre):=ho2;have HEND:Hid (∀(v7:Value) (w7:World) (T:TypeId),POwn w.heap.size w7 v7 (pre++[(x1,x2)])→(W2.alloc (.cells #[.string x1,.int .i64 x2] T)).grownBy w7 (Value.slice vd pre.length vc).ownBlock→(v7.ownBlock=(Value.slice vd pre.length vc).ownBlock∨v7.ownBlock=some (W2.heap.size+1))→w7.cell? ⟨lb,0,none⟩=some (.slice vd pre.length vc)∧w7.frozen? ⟨lb,0,none⟩=false∧∃A',Ext A A' W2∧Lies A' (w7.setCell ⟨lb,0,none⟩ v7)∧Upd A W2 (w7.setCell ⟨lb,0,none⟩ v7)∧CoI w lb A' (pre++[(x1,x2)]) (w7.setCell ⟨lb,0,none⟩ v7)):=fun v7 w7 T ho7 hg7 hn7=>by
    have hbo:Below W2.heap.size W2 (W2.alloc (.cells #[.string x1,.int .i64 x2] T)):=(Below.refl _ W2).alloc (Nat.le_refl _) _;(have hsa:(W2.alloc (.cells #[.string x1,.int .i64 x2] T)).heap.size=W2.heap.size+1:=by simp);have hs2:w.heap.size≤W2.heap.size:=Nat.le_trans h1.size hua.size;have hu7:Upd A W2 w7:=(Upd.of_below hbo).trans (G:=A) ⟨hg7.os,hg7.tape,hg7.output,hg7.size,fun k hk hn=>hg7.block k hk (fun e=>hn (h7 k (.inr e.symm)))⟩ (fun _ _ g=>g);have hlb2:lb<W2.heap.size:=Nat.lt_of_lt_of_le hlbW hua.size;have hb7:w7.heap[lb]?=some (.cells #[.slice vd pre.length vc] 22):=(hg7.block lb (by omega) (fun e=>h6 e.symm)).trans ((hbo.block lb hlb2).trans hl4);have hus:Upd (fun j=>j=lb) w7 (w7.setCell ⟨lb,0,none⟩ v7):=zBo w7 lb 0 v7;have hlb7:v7.ownBlock≠some lb:=fun e=>by
     rcases hn7 with e2|e2
     · exact h6 (e2▸e)
     · rw[e2]at e;cases e;omega
    have hu:Upd A W2 (w7.setCell ⟨lb,0,none⟩ v7):=hu7.trans hus (fun k _ e=>h7 k (.inl e));have hA2:∀k,v7.ownBlock=some k→A k∨W2.heap.size≤k:=fun k e=>by
     rcases hn7 with e2|e2
     · exact .inl (h7 k (.inr (e2▸e)))
     · rw[e2]at e;cases e;exact .inr (by omega)
    refine⟨by simp[World.cell?,hb7],by simp[World.frozen?,hb7],fun k=>A k∨v7.ownBlock=some k,⟨fun k hk => .inl hk,fun k hk=>hk.elim .inl (hA2 k)⟩,fun k hk=>?_,hu,hI2.bel.trans (hu.below hI2.bel.size h3),h2,fun k hk=>?_,v7,by rw[zAt hb7];rfl,zDd ho7 fun g hg=>hus.block g (zA1 ho7 hg).2 (fun e=>hlb7 (e▸hg)),hlb7,fun k hk=>?_⟩
    · rcases hk with e|e
      · exact Nat.lt_of_lt_of_le (hl2 k e) hu.size
      · exact Nat.lt_of_lt_of_le (zA1 ho7 e).2 hus.size
    · rcases hk with e|e
      · exact h3 k e
      · exact(zA1 ho7 e).1
    · rcases hk with e|e
      · exact .inl (h7 k (.inl e))
      · exact .inr e
   have HB2:Hid (w.heap.size≤W2.heap.size):=Nat.le_trans h1.size hua.size;have HUA:Hid (Upd (fun j=>j=W0.heap.size+1) W W2):=hua;clear h1 h2 h3 h4 h5 h6 h7 hl hnl hlt hu2 hua hl2 hI2 hl4 ho2 hp2 hpb hz1 hz2 hlbW
   gi_wp2_with (gi_at_builtin;refine zT2 rfl _ _ (x1,x2) _ rfl w.heap.size _ _ _ pre rfl HO2.out rfl rfl (by omega) HB2.out ?_;intro v7 w7 ho7 hg7 hn7;obtain⟨m0,mf,HE7⟩:=HEND.out v7 w7 _ ho7 hg7 hn7;obtain⟨ad7,n7,cap7,hv7⟩:∃a n c,v7=Value.slice a n c:=(by obtain⟨a,c,e⟩:=ho7.shape;exact⟨_,_,_,e⟩);subst hv7;have HEE:Hid _:=HE7;clear HE7 ho7 hg7 hn7)
   exact HEE.out
 · rintro A' W hl ⟨h1,h2,h3,v,h4,h5,h6,h7⟩ hD
   obtain⟨vd,vc,hvv⟩:=h5.shape;subst hvv;(have l0:W.cell? ⟨lb,0,none⟩=some (.slice vd L.length vc):=by simp[World.cell?,h4]);have HO:Hid (POwn w.heap.size W (.slice vd L.length vc) L):=h5;have HB:Hid (Below w.heap.size w W):=h1;have HD:Hid (W.heap[W0.heap.size]?=some (.deferred (some []))):=hD;have HZ:Hid (w.heap.size≤W0.heap.size∧∀k,(Value.slice vd L.length vc).ownBlock=some k→k≠W0.heap.size):=⟨by omega,fun k hk e=>by
    obtain⟨_,⟨e2,_⟩|⟨g,cap,cur,e2,_,hh,_⟩⟩:=h5
    · rw[e2]at hk;cases hk
    · rw[e2]at hk;cases hk
      have e':g=W0.heap.size:=e;rw[e',hD]at hh;cases hh⟩
   generalize W0.heap.size=db at *;clear h1 h2 h3 h4 h5 h6 h7 hD hl hs0 hL hseq hS hI0 hl0 hlb;go_wp2;have hu:=Upd.put (W:=W) db (.deferred none);have hfin:POwn w.heap.size (W.putObj db (.deferred none)) (.slice vd L.length vc) L∧Below w.heap.size w (W.putObj db (.deferred none)):=⟨zDd HO.out fun g hg=>hu.block g (zA1 HO.out hg).2 (HZ.out.2 g hg),HB.out.trans (hu.below HB.out.size fun k e=>by rw[e];exact HZ.out.1)⟩;exact⟨by simp,.inl ⟨_,_,rfl,run_takeDeferred HD.out,_,results_tmp rfl _ _ _,.slice vd L.length vc,rfl,hfin.1,hfin.2⟩⟩
 · rintro c A' q W hq hl' h hD
   exact h.elim
theorem zPq(w:World)(c0 c1:Value)(S:(Nat→Prop)→World→Prop)(L:List Pr)(hL:L.length≤1048576)(hseq:SeqIs S 114 #[c0,c1] L)(hS:∀W A,Below w.heap.size w W→(∀k,A k→w.heap.size≤k)→S A W):
 Calls Tryz.prog 40 #[.func (.func 114) #[] #[c0,c1]] w fun e w'=>∃v,e = .returned v∧POwn w.heap.size w' v L∧Below w.heap.size w w':=by
 have HA:=zL0 w c0 c1 S L hL hseq hS;have HA:Hid (Calls Tryz.prog 79 #[.slice none 0 0,.func (.func 114) #[] #[c0,c1]] w fun e w'=>∃v,e = .returned v∧POwn w.heap.size w' v L∧Below w.heap.size w w'):=HA;clear hseq hS;go_enter Tryz.func40,Tryz.ntmps40;go_wp2_with (go_at_call 79;refine HA.out.mono ?_;rintro e w1 ⟨v1,rfl,ho1,hb1⟩;have HO1:Hid (POwn w.heap.size w1 v1 L∧Below w.heap.size w w1):=⟨ho1,hb1⟩;clear ho1 hb1);go_ret;exact⟨_,rfl,HO1.out.1,HO1.out.2⟩
def zL9(fv:Value)(w1:World)(L:List Pr):Prop:=∀W,Below w1.heap.size w1 W→Calls Tryz.prog 40 #[fv] W fun e w'=>∃v,e = .returned v∧POwn W.heap.size w' v L∧Below W.heap.size W w'
theorem WAll_any(w:World)(wb:Nat)(l:List Pr)(h:WkOn w wb l):
 Calls Tryz.prog 41 #[.pointer (some ⟨wb,0,none⟩)] w fun e w'=>∃c0 c1,e = .returned (.func (.func 114) #[] #[.pointer (some ⟨c0,0,none⟩),.pointer (some ⟨c1,0,none⟩)])∧Below w.heap.size w w'∧zL9 (.func (.func 114) #[] #[.pointer (some ⟨c0,0,none⟩),.pointer (some ⟨c1,0,none⟩)]) w' l:=by
 have HFR:Hid (Calls Tryz.prog 80 #[.pointer (some ⟨wb,0,none⟩),.int .i64 0] w fun e w'=>∃c0 c1,e = .returned (.func (.func 114) #[] #[.pointer (some ⟨c0,0,none⟩),.pointer (some ⟨c1,0,none⟩)])∧Below w.heap.size w w'∧zL9 (.func (.func 114) #[] #[.pointer (some ⟨c0,0,none⟩),.pointer (some ⟨c1,0,none⟩)]) w' l):=by
  refine(from_any wb 0 w).mono ?_;rintro e w' ⟨rfl,t1,t2,hw'⟩;have hb:Below w.heap.size w w':=by rw[hw'];exact((Below.refl _ w).alloc (Nat.le_refl _) _).alloc (by simp) _
  have hcw:w'.cell? ⟨w.heap.size,0,none⟩=some (.pointer (some ⟨wb,0,none⟩)):=by rw[hw'];simp
  have hci:w'.cell? ⟨w.heap.size+1,0,none⟩=some (.int .i64 ((0:Nat):Int)):=by rw[hw'];simp
  have hsz:w'.heap.size=w.heap.size+2:=by rw[hw'];simp
  refine⟨_,_,rfl,hb,fun W hW=>?_⟩;have hbW:Below w.heap.size w W:=hb.trans (hW.mono hb.size);have hl:=(zAp h.ok).2.2;have:=zPq W _ _ _ _ (by rw[List.drop_zero];omega) (from_seq w wb l h w.heap.size (w.heap.size+1) 0 (by omega)) (fun W' A hW' hA=>⟨hbW.trans (hW'.mono hbW.size),fun j hj=>Nat.le_trans hbW.size (hA j hj),(hW'.cell (p:=⟨w.heap.size,0,none⟩) (by show w.heap.size<_;have:=hW.size;omega)).trans ((hW.cell (p:=⟨w.heap.size,0,none⟩) (by show w.heap.size<_;omega)).trans hcw),(hW'.cell (p:=⟨w.heap.size+1,0,none⟩) (by show w.heap.size+1<_;have:=hW.size;omega)).trans ((hW.cell (p:=⟨w.heap.size+1,0,none⟩) (by show w.heap.size+1<_;omega)).trans hci),fun ha=>by have h1:=hA _ ha;have h2:=hW.size;omega⟩);rw[List.drop_zero]at this;exact this
 clear h;go_enter Tryz.func41,Tryz.ntmps41;go_wp2_with (go_at_call 80;refine HFR.out.mono ?_;rintro e w1 ⟨c0,c1,rfl,hb1,hts⟩;have HTS:Hid _:=hts;clear hts);go_ret;exact⟨c0,c1,rfl,hb1,HTS.out⟩
end Di
end
section
open Go.RowKit Go.Shelf Go.Lib Nums Fm Pk Pm
namespace Di
def WkIn(w:World)(lo hi wb:Nat)(l:List Pr):Prop:=hi≤w.heap.size∧∀W,hi≤W.heap.size→(∀j,lo≤j→j<hi→W.heap[j]?=w.heap[j]?)→Tabs W→WkOn W wb l
theorem WkIn.keep{w w':World}{lo hi wb:Nat}{l:List Pr}(h:WkIn w lo hi wb l)(hs:w.heap.size≤w'.heap.size)(hk:∀j,lo≤j→j<hi→w'.heap[j]?=w.heap[j]?):WkIn w' lo hi wb l:=
 ⟨Nat.le_trans h.1 hs,fun W h1 h2 h3=>h.2 W h1 (fun j a b=>(h2 j a b).trans (hk j a b)) h3⟩
theorem WkIn.on{w:World}{lo hi wb:Nat}{l:List Pr}(h:WkIn w lo hi wb l)(ht:Tabs w):WkOn w wb l:=h.2 w h.1 (fun _ _ _=>rfl) ht
theorem WkIn.of_lo{w:World}{B wb:Nat}{l:List Pr}(h:zOd B w wb l):WkIn w B w.heap.size wb l:=⟨Nat.le_refl _,fun W h1 h2 h3=>h W h1 h2 h3⟩
def TabB(B:Nat)(w:World):Prop:=∀W,Below B w W→Tabs W
theorem TabB.now{B:Nat}{w:World}(h:TabB B w):Tabs w:=h w (Below.refl _ _)
theorem TabB.of{w:World}(h:Tabs w):TabB w.heap.size w:=fun _ hb=>h.below hb
theorem TabB.go{B:Nat}{w w':World}(h:TabB B w)(hb:Below B w w'):TabB B w':=fun W hW=>h W (hb.trans hW)
structure DictAt(B:Nat)(w:World)(db lo hi wb:Nat)(v:Value)(base over:List Pr):Prop where
 low:B≤db
 ok:Dok base over
 tabs:TabB B w
 blk:w.heap[db]?=some (.cells #[.pointer (some ⟨wb,0,none⟩),v] 72)
 wk:WkIn w lo hi wb base
 own:POwn B w v over
 nd:v.ownBlock≠some db
 nw:¬(lo≤db∧db<hi)
 nv:∀k,v.ownBlock=some k→¬(lo≤k∧k<hi)
 nz:over=[]→v = .slice none 0 0
def fpD(db:Nat)(v:Value)(k:Nat):Prop:=k=db∨v.ownBlock=some k
section
variable {B:Nat} {w w':World} {db lo hi wb:Nat} {v:Value} {base over:List Pr}
theorem DictAt.lt(h:DictAt B w db lo hi wb v base over):db<w.heap.size:=(Array.getElem?_eq_some_iff.1 h.blk).1
theorem DictAt.size(h:DictAt B w db lo hi wb v base over):B≤w.heap.size:=Nat.le_of_lt (Nat.lt_of_le_of_lt h.low h.lt)
theorem DictAt.keep{F:Nat→Prop}(h:DictAt B w db lo hi wb v base over)(hu:Upd F w w')(hF:∀k,F k→B≤k)(h1:¬F db)(h2:∀k,v.ownBlock=some k→¬F k)(h3:∀k,lo≤k→k<hi→¬F k):DictAt B w' db lo hi wb v base over:=
 ⟨h.low,h.ok,h.tabs.go (hu.below h.size hF),(hu.block db h.lt h1).trans h.blk,h.wk.keep hu.size (fun j a b=>hu.block j (Nat.lt_of_lt_of_le b h.wk.1) (h3 j a b)),zDd h.own fun g hg=>hu.block g (zA1 h.own hg).2 (h2 g hg),h.nd,h.nw,h.nv,h.nz⟩
theorem DictAt.below(h:DictAt B w db lo hi wb v base over)(hb:Below w.heap.size w w'):DictAt B w' db lo hi wb v base over:=
 h.keep (F:=fun _=>False) (Upd.of_below hb) (fun _=>False.elim) id (fun _ _=>id) (fun _ _ _=>id)
theorem DictAt.cells(h:DictAt B w db lo hi wb v base over):w.cell? ⟨db,0,none⟩=some (.pointer (some ⟨wb,0,none⟩))∧w.cell? ⟨db,1,none⟩=some v∧w.frozen? ⟨db,0,none⟩=false∧w.frozen? ⟨db,1,none⟩=false:=
 ⟨by simp[World.cell?,h.blk],by simp[World.cell?,h.blk],by simp[World.frozen?,h.blk],by simp[World.frozen?,h.blk]⟩
theorem DictAt.on(h:DictAt B w db lo hi wb v base over):WkOn w wb base:=h.wk.on h.tabs.now
theorem DictAt.row(h:DictAt B w db lo hi wb v base over):PRow w v over:=h.own.row
theorem DictAt.fp(h:DictAt B w db lo hi wb v base over):∀k,fpD db v k→B≤k∧k<w.heap.size:=fun k hk=>by
 rcases hk with rfl|hk
 · exact⟨h.low,h.lt⟩
 · exact zA1 h.own hk
end
structure MutSays(B:Nat)(w w':World)(db lo hi:Nat)(v:Value)(L:List Pr):Prop where
 ex:∃lo' hi' wb' v' base' over',DictAt B w' db lo' hi' wb' v' base' over'∧over'.length≤32∧zAe zAa base' over'=L∧(v'=v∨∀k,v'.ownBlock=some k→w.heap.size≤k)∧((lo'=lo∧hi'=hi)∨w.heap.size≤lo')
 upd:Upd (fpD db v) w w'
theorem MutSays.same{B:Nat}{w w':World}{db lo hi wb:Nat}{v:Value}{base over:List Pr}(h:DictAt B w db lo hi wb v base over)(hf:over.length≤32)(hb:Below w.heap.size w w'):MutSays B w w' db lo hi v (zAe zAa base over):=
 ⟨⟨lo,hi,wb,v,base,over,h.below hb,hf,rfl,.inl rfl,.inl ⟨rfl,rfl⟩⟩,Upd.of_below hb⟩
end Di
end
section
open Go.RowKit Go.Shelf Go.Lib Nums Fm Pk Pm
namespace Di
theorem zFq{B:Nat}{w:World}{vs:Value}{b:List St}(h:StRow B w vs b):∃ad n cap,vs = .slice ad n cap:=by
 obtain⟨ad,n,cap,e,_⟩:=StRow.form h;exact⟨ad,n,cap,e⟩
structure LoadSays(B:Nat)(w w':World)(l:List Pr)(db:Nat):Prop where
 ex:∃lo hi wb,DictAt B w' db lo hi wb (.slice none 0 0) l []∧w.heap.size≤lo
 lo:w.heap.size≤db
 bel:Below w.heap.size w w'
theorem load_end{B:Nat}{w w2 w3:World}{wb:Nat}{l:List Pr}(hB:B≤w.heap.size)(ht:TabB B w)(hC:zAl l=0)(h1:Below w.heap.size w w2)(h3:Below w2.heap.size w2 w3)(hlo:zOd w2.heap.size w3 wb l)(o:Obj)(ho:o = .cells #[.pointer (some ⟨wb,0,none⟩),.slice none 0 0] 72):
 LoadSays B w (w3.alloc o) l w3.heap.size:=by
 subst ho;have hb3:Below w.heap.size w w3:=h1.trans (h3.mono h1.size);have hb4:Below w3.heap.size w3 (w3.alloc (.cells #[.pointer (some ⟨wb,0,none⟩),.slice none 0 0] 72)):=(Below.refl _ w3).alloc (Nat.le_refl _) _;have hb:Below w.heap.size w (w3.alloc (.cells #[.pointer (some ⟨wb,0,none⟩),.slice none 0 0] 72)):=hb3.trans (hb4.mono hb3.size);have h23:=h3.size;refine⟨⟨w2.heap.size,w3.heap.size,wb,⟨Nat.le_trans hB hb3.size,(Dok.start hC).1,ht.go (hb.mono hB),zAb _ _,(WkIn.of_lo hlo).keep hb4.size (fun j _ hj=>hb4.block j hj),POwn.nil _ _,fun e=>(by cases e),by omega,fun k e=>(by cases e),fun _=>rfl⟩,h1.size⟩,hb3.size,hb⟩
theorem zL6(B:Nat)(w:World)(hB:B≤w.heap.size)(ht:TabB B w)(u:Value)(l:List Pr)(h:PRow w u l)(hs:Sm l)(hC:zAl l=0):
 Calls Tryz.prog 9 #[u] w fun e w'=>∃db,e = .returned (.tuple #[.pointer (some ⟨db,0,none⟩),.int .i64 0])∧LoadSays B w w' l db:=by
 obtain⟨ad,cap,rfl⟩:=h.form;have hl:=(zAp hC).2.2
 have HBD:Hid (Calls Tryz.prog 16 #[.slice ad l.length cap] w fun e w'=>∃base vd vn vc b,e = .returned (.tuple #[.agg #[.int .i64 base,.slice vd vn vc],.int .i64 0])∧BuildSays w w' l base (.slice vd vn vc) b):=(zI0 w (.slice ad l.length cap) l h (by omega) hs ht.now).mono (by
  rintro e w' ⟨base,vs,b,rfl,hb⟩;obtain⟨vd,vn,vc,rfl⟩:=zFq hb.row;exact⟨base,vd,vn,vc,b,by rw[hC],hb⟩)
 have HT:Hid (TabB B w∧B≤w.heap.size):=⟨ht,hB⟩;have HC:Hid (zAl l=0):=hC;generalize l.length=n at *;clear h hs hC ht hB hl;go_enter Tryz.func9,Tryz.ntmps9;go_upto_region 4 with(go_at_call 16;refine HBD.out.mono ?_;rintro e w1 ⟨base,vd,vn,vc,b,rfl,hbs⟩;have HBS:Hid (BuildSays w w1 l base (.slice vd vn vc) b):=hbs;clear hbs)
 obtain⟨W2,hW2⟩:∃W2,W2=w1.alloc (.cells #[.int .i64 base,.slice vd vn vc] 31):=⟨_,rfl⟩;have hb2:Below w1.heap.size w1 W2:=by rw[hW2];exact(Below.refl _ w1).alloc (Nat.le_refl _) _
 have hn2:W2.heap[w1.heap.size]?=some (.cells #[.int .i64 base,.slice vd vn vc] 31):=by rw[hW2];exact zAb _ _
 rw[←hW2];obtain⟨mb,hmb⟩:∃mb,w1.heap.size=mb:=⟨_,rfl⟩;rw[hmb]at hn2 ⊢;have c0:W2.cell? ⟨mb,0,none⟩=some (.int .i64 base):=by simp[World.cell?,hn2]
 have c1:W2.cell? ⟨mb,1,none⟩=some (.slice vd vn vc):=by simp[World.cell?,hn2]
 have HW2:Hid (Below w.heap.size w W2):=HBS.out.bel.trans (hb2.mono HBS.out.bel.size);have HNW:Hid (Calls Tryz.prog 21 #[.agg #[.int .i64 base,.slice vd vn vc]] W2 fun e w'=>∃wb,e = .returned (.tuple #[.pointer (some ⟨wb,0,none⟩),.bool true])∧W2.heap.size≤wb∧zOd W2.heap.size w' wb l∧Below W2.heap.size W2 w'):=NewW_lo w.heap.size W2 l base _ b HC.out (HBS.out.row.below hb2) HBS.out.mach (HT.out.1.now.below HW2.out);clear hb2 hn2 hW2 hmb;go_wp2_with (go_at_call 21;refine HNW.out.mono ?_;rintro e w3 ⟨wb,rfl,_,hlo,hb3⟩;have H3:Hid (zOd W2.heap.size w3 wb l∧Below W2.heap.size W2 w3):=⟨hlo,hb3⟩;clear hlo hb3);go_ret2;exact⟨_,rfl,load_end HT.out.2 HT.out.1 HC.out HW2.out H3.out.2 H3.out.1 _ rfl⟩
theorem Load_no(w:World)(ht:Tabs w)(u:Value)(l:List Pr)(h:PRow w u l)(hs:Sm l)(hl:l.length≤9223372036854775807)(hC:zAl l≠0):
 Calls Tryz.prog 9 #[u] w fun e w'=>e = .returned (.tuple #[.pointer none,.int .i64 (zAl l)])∧Below w.heap.size w w':=by
 obtain⟨ad,cap,rfl⟩:=h.form;obtain⟨C,hCC⟩:∃C,zAl l=C:=⟨_,rfl⟩;rw[hCC]at hC ⊢
 have HBD:Hid (Calls Tryz.prog 16 #[.slice ad l.length cap] w fun e w'=>∃base vd vn vc,e = .returned (.tuple #[.agg #[.int .i64 base,.slice vd vn vc],.int .i64 C])∧Below w.heap.size w w'):=(zI0 w (.slice ad l.length cap) l h hl hs ht).mono (by
  rintro e w' ⟨base,vs,b,rfl,hb⟩;obtain⟨vd,vn,vc,rfl⟩:=zFq hb.row;exact⟨base,vd,vn,vc,by rw[hCC],hb.bel⟩)
 have hC2:(C==0)=false:=by simpa using hC
 generalize l.length=n at *;clear h hs hCC ht hl;go_enter Tryz.func9,Tryz.ntmps9;go_wp2_with (go_at_call 16;refine HBD.out.mono ?_;rintro e w1 ⟨base,vd,vn,vc,rfl,hb1⟩;have HB1:Hid (Below w.heap.size w w1):=hb1;clear hb1);go_ret2;exact⟨rfl,HB1.out.alloc HB1.out.size _⟩
theorem New_dict(B:Nat)(w:World)(hB:B≤w.heap.size)(ht:TabB B w):
 Calls Tryz.prog 12 #[] w fun e w'=>∃db,e = .returned (.pointer (some ⟨db,0,none⟩))∧LoadSays B w w' [] db:=by
 have HLD:Hid (Calls Tryz.prog 9 #[.slice none 0 0] w fun e w'=>∃db,e = .returned (.tuple #[.pointer (some ⟨db,0,none⟩),.int .i64 0])∧LoadSays B w w' [] db):=zL6 B w hB ht _ [] (PRow.nil w) (fun x hx=>by cases hx) (by rfl);clear hB ht;go_enter Tryz.func12,Tryz.ntmps12;go_wp2_with (go_at_call 9;refine HLD.out.mono ?_;rintro e w1 ⟨db,rfl,hls⟩;have HLS:Hid (LoadSays B w w1 [] db):=hls;clear hls);go_ret;exact⟨db,rfl,HLS.out⟩
structure Sdb(db wb:Nat)(v:Value)(W:World):Prop where
 c0:W.cell? ⟨db,0,none⟩=some (.pointer (some ⟨wb,0,none⟩))
 c1:W.cell? ⟨db,1,none⟩=some v
theorem Sdb.facts{db wb:Nat}{v:Value}{W:World}(h:Sdb db wb v W):W.cell? ⟨db,0,none⟩=some (.pointer (some ⟨wb,0,none⟩))∧W.cell? ⟨db,1,none⟩=some v:=⟨h.1,h.2⟩
theorem DictAt.sdb{B:Nat}{w:World}{db lo hi wb:Nat}{v:Value}{base over:List Pr}(h:DictAt B w db lo hi wb v base over):Sdb db wb v w:=⟨h.cells.1,h.cells.2.1⟩
theorem Sdb.below{db wb:Nat}{v:Value}{w w':World}(h:Sdb db wb v w)(hb:Below w.heap.size w w'):Sdb db wb v w':=
 ⟨(hb.cell (p:=⟨db,0,none⟩) (World.block_lt_of_cell? _ _ h.c0)).trans h.c0,(hb.cell (p:=⟨db,1,none⟩) (World.block_lt_of_cell? _ _ h.c1)).trans h.c1⟩
theorem zOf(B:Nat)(w:World)(db lo hi wb:Nat)(v:Value)(base over:List Pr)(h:DictAt B w db lo hi wb v base over):
 Calls Tryz.prog 17 #[.pointer (some ⟨db,0,none⟩)] w fun e w'=>∃u,e = .returned u∧POwn w.heap.size w' u (zAe zAa base over)∧Below w.heap.size w w':=by
 obtain⟨vd,vc,rfl⟩:=h.own.shape;have hl:=(zAp h.ok.ok).2.2;have hlo:=h.ok.few;have HS:Hid (∀W,Below w.heap.size w W→Sdb db wb (.slice vd over.length vc) W):=fun W hW=>h.sdb.below hW
 have HAA:Hid (∀W,Below w.heap.size w W→Calls Tryz.prog 41 #[.pointer (some ⟨wb,0,none⟩)] W fun e w'=>∃c0 c1,e = .returned (.func (.func 114) #[] #[.pointer (some ⟨c0,0,none⟩),.pointer (some ⟨c1,0,none⟩)])∧Below W.heap.size W w'∧zL9 (.func (.func 114) #[] #[.pointer (some ⟨c0,0,none⟩),.pointer (some ⟨c1,0,none⟩)]) w' base):=fun W hW=>WAll_any W wb base (h.on.below hW)
 have HMG:Hid (∀W u,Below w.heap.size w W→PRow W u base→Calls Tryz.prog 39 #[u,.slice vd over.length vc] W fun e w'=>∃v',e = .returned v'∧POwn W.heap.size w' v' (zAe zAa base over)∧Below W.heap.size W w'):=fun W u hW hu=>zY1 W u _ base over hu (h.row.below hW) (by omega) (by omega)
 generalize over.length=no at *;clear h hl hlo;go_enter Tryz.func17,Tryz.ntmps17;go_upto_region 1 with fail
 have hbd:Below w.heap.size w w.drew:=(Below.refl _ w).drew;have hS0:=HS.out w.drew hbd;refine zAh (S:=Sdb db wb (.slice vd no vc)) 12 rfl zAr hS0 (fun _=>?_);refine tq4 Sdb.facts 0 3 1 4 2 5 3 6 ?_;simp only[sZa,sZb,sZc];refine tq4 Sdb.facts 6 9 7 10 8 11 9 12 ?_;simp only[sZa,sZb,sZc];refine oc 4 w.drew 7 41 #[.pointer (some ⟨wb,0,none⟩)] ?_;refine(HAA.out _ hbd).mono ?_;rintro e w1 ⟨c0,c1,rfl,hb1,hts⟩;have HB1:Hid (Below w.heap.size w w1):=hbd.trans (hb1.mono hbd.size);have hS1:=HS.out w1 HB1.out;refine⟨_,rfl,hS1,fun _=>?_⟩;simp only[sZa,sZb,sZc];refine oc 5 w1 8 40 #[.func (.func 114) #[] #[.pointer (some ⟨c0,0,none⟩),.pointer (some ⟨c1,0,none⟩)]] ?_;refine(hts w1 (Below.refl _ _)).mono ?_;rintro e w2 ⟨u2,rfl,ho2,hb2⟩;obtain⟨ud,uc,rfl⟩:=ho2.shape;have HB2:Hid (Below w.heap.size w w2):=HB1.out.trans (hb2.mono HB1.out.size);have HO2:Hid (PRow w2 (.slice ud base.length uc) base):=ho2.row;have hS2:=HS.out w2 HB2.out;clear hts hb1 hb2 ho2;refine⟨_,rfl,hS2,fun _=>?_⟩;simp only[sZa,sZb,sZc];refine oc 10 w2 13 39 #[.slice ud base.length uc,.slice vd no vc] ?_;refine(HMG.out _ _ HB2.out HO2.out).mono ?_;rintro e w3 ⟨u3,rfl,ho3,hb3⟩;obtain⟨xd,xc,hx⟩:=ho3.shape;have HB3:Hid (Below w.heap.size w w3):=HB2.out.trans (hb3.mono HB2.out.size);have HO3:Hid (POwn w.heap.size w3 u3 (zAe zAa base over)):=ho3.mono HB2.out.size;have hS3:=HS.out w3 HB3.out;subst hx;clear hb3 ho3;refine⟨_,rfl,hS3,fun _=>?_⟩;simp only[sZa,sZb,sZc];refine tq Sdb.facts 11 2 ?_;simp only[sZa,sZb,sZc];refine wpAnyH_done (by kernel_rfl) ?_ _;clear hS0 hS1 hS2 hS3;go_wp2;go_ret;exact⟨_,rfl,HO3.out,HB3.out⟩
theorem zQa(w:World)(db:Nat)(vd:Option Addr)(n vc:Nat)(c1:w.cell? ⟨db,1,none⟩=some (.slice vd n vc)):
 Calls Tryz.prog 58 #[.pointer (some ⟨db,0,none⟩)] w fun e w'=>e = .returned (.int .i64 (n:Int))∧w'=w:=by
 go_enter Tryz.func58,Tryz.ntmps58;go_wp2;go_ret;exact⟨rfl,rfl⟩
theorem Dok.words_sm{base over:List Pr}(h:Dok base over):Sm (zAe zAa base over):=fun x hx=>by
 obtain⟨_,_,_,_,hs96,_⟩:=zA3 (x:=x) ((zAp h.all).1 x hx).1;omega
structure CompSays(B:Nat)(w w':World)(db:Nat)(L:List Pr):Prop where
 ex:∃lo hi wb,DictAt B w' db lo hi wb (.slice none 0 0) L []∧w.heap.size≤lo
 upd:Upd (fun k=>k=db) w w'
theorem zPp{B:Nat}{w w2:World}{db lo hi wb:Nat}{v:Value}{base over:List Pr}(h:DictAt B w db lo hi wb v base over)(hb:Below w.heap.size w w2){lo2 hi2 wb2:Nat}{db2:Nat}(h2:DictAt B w2 db2 lo2 hi2 wb2 (.slice none 0 0) (zAe zAa base over) [])(hlo:w.heap.size≤lo2):
 CompSays B w ((w2.setCell ⟨db,0,none⟩ (.pointer (some ⟨wb2,0,none⟩))).setCell ⟨db,1,none⟩ (.slice none 0 0)) db (zAe zAa base over):=by
 have hdb:=h.lt;have hu1:Upd (fun k=>k=db) w2 (w2.setCell ⟨db,0,none⟩ (.pointer (some ⟨wb2,0,none⟩))):=zBo w2 db 0 _;have hu2:Upd (fun k=>k=db) (w2.setCell ⟨db,0,none⟩ (.pointer (some ⟨wb2,0,none⟩))) ((w2.setCell ⟨db,0,none⟩ (.pointer (some ⟨wb2,0,none⟩))).setCell ⟨db,1,none⟩ (.slice none 0 0)):=zBo _ db 1 _;have hu:=hu1.trans hu2 (fun _ _ g=>g);have hblk:w2.heap[db]?=some (.cells #[.pointer (some ⟨wb,0,none⟩),v] 72):=(hb.block db hdb).trans h.blk;have hk:=h2.wk.keep hu.size (fun j a b=>hu.block j (Nat.lt_of_lt_of_le b h2.wk.1) (fun e=>by omega));refine⟨⟨lo2,hi2,wb2,⟨h.low,h2.ok,h2.tabs.go (hu.below h2.size (fun k e=>by rw[e];exact h.low)),?_,hk,POwn.nil _ _,fun e=>(by cases e),by omega,fun k e=>(by cases e),fun _=>rfl⟩,hlo⟩,(Upd.of_below hb).trans hu (fun _ _ g=>g)⟩;have e1:(w2.setCell ⟨db,0,none⟩ (.pointer (some ⟨wb2,0,none⟩))).heap[db]?=some (.cells #[.pointer (some ⟨wb2,0,none⟩),v] 72):=by rw[zAt hblk];rfl
 rw[zAt e1];rfl
theorem zIz(B:Nat)(w:World)(db lo hi wb:Nat)(v:Value)(base over:List Pr)(h:DictAt B w db lo hi wb v base over):
 Calls Tryz.prog 27 #[.pointer (some ⟨db,0,none⟩)] w fun e w'=>e = .returned (.tuple #[])∧CompSays B w w' db (zAe zAa base over):=by
 have HP:Hid (Calls Tryz.prog 17 #[.pointer (some ⟨db,0,none⟩)] w fun e w'=>∃u,e = .returned u∧POwn w.heap.size w' u (zAe zAa base over)∧Below w.heap.size w w'):=zOf B w db lo hi wb v base over h;have HL:Hid (∀W u,Below w.heap.size w W→PRow W u (zAe zAa base over)→Calls Tryz.prog 9 #[u] W fun e w'=>∃db,e = .returned (.tuple #[.pointer (some ⟨db,0,none⟩),.int .i64 0])∧LoadSays B W w' (zAe zAa base over) db):=fun W u hW hu=>zL6 B W (Nat.le_trans h.size hW.size) (h.tabs.go (hW.mono h.size)) u _ hu h.ok.words_sm h.ok.all
 have HH:Hid (DictAt B w db lo hi wb v base over):=h;have hlt:=h.lt;clear h;go_enter Tryz.func27,Tryz.ntmps27
 go_upto_region 1 with(first
  |(go_at_call 17;refine HP.out.mono ?_;rintro e w1 ⟨u1,rfl,ho1,hb1⟩;have HO1:Hid (PRow w1 u1 (zAe zAa base over)):=ho1.row;have HB1:Hid (Below w.heap.size w w1):=hb1;obtain⟨ud,uc,hu1⟩:=ho1.shape;subst hu1;clear ho1 hb1)
  |(go_at_call 9;refine(HL.out _ _ HB1.out HO1.out).mono ?_;rintro e w2 ⟨db2,rfl,hls⟩;have HLS:Hid (LoadSays B w1 w2 (zAe zAa base over) db2):=hls;clear hls))
 have HB2:Hid (Below w.heap.size w w2):=HB1.out.trans (HLS.out.bel.mono HB1.out.size);obtain⟨lo2,hi2,wb2,hd2,hlo2⟩:=HLS.out.ex;have HD2:Hid (DictAt B w2 db2 lo2 hi2 wb2 (.slice none 0 0) (zAe zAa base over) []):=hd2;have HLO:Hid (w.heap.size≤lo2∧w.heap.size≤db2):=⟨Nat.le_trans HB1.out.size hlo2,Nat.le_trans HB1.out.size HLS.out.lo⟩;obtain⟨x0,x1,_,_⟩:=hd2.cells;obtain⟨_,_,f0,f1⟩:=(HH.out.below HB2.out).cells;clear hd2 hlo2;go_wp2;go_returns;exact⟨rfl,zPp HH.out HB2.out HD2.out HLO.out.1⟩
end Di
end
section
open Go.RowKit Go.Shelf Go.Lib Go.Sort Pm
theorem zVl(w:World)(v:Value)(l:List Pr)(s:ByteArray)(h:PRow w v l)(hl:l.length≤9223372036854775807):
 Calls Tryz.prog 54 #[v,.string s] w fun e w'=>e = .returned (.tuple #[.int .i64 ((Pm.find l s).getD 0),.bool (Pm.find l s).isSome])∧w'=w:=by
 obtain⟨ad,cap,rfl⟩:=h.form;have HR:Hid (PRow w (.slice ad l.length cap) l):=h;obtain⟨n,hn⟩:∃n,l.length=n:=⟨_,rfl⟩;have HN:Hid (l.length=n):=hn;obtain⟨F,hF⟩:∃F,Pm.find l s=F:=⟨_,rfl⟩;have HF:Hid (Pm.find l s=F):=hF;rw[hn]at HR hl;clear h;rw[hn,hF];clear hn hF;go_enter Tryz.func54,Tryz.ntmps54;go_wp2
 go_loopg [6] n (fun g s6 wr=>∃(k:Nat),s6 = .int .i64 ((k:Int)-1)∧k≤n∧k≤g∧wr=w∧Hid (Pm.find (l.take k) s=F))
 case atStart=>exact⟨n,rfl,Nat.le_refl _,Nat.le_refl _,rfl,by show _=_;rw[List.take_of_length_le (by have:=HN.out;omega)];exact HF.out⟩
 case round=>
  obtain⟨k,rfl,hk,hg,rfl,HK⟩:=hrel;cases k with
  |zero=>
   (have HE:Hid (F=none):=by show _=_;rw[←HK.out];rfl);go_wp2;go_ret2;rw[HE.out];exact⟨rfl,rfl⟩
  |succ k=>
   (have e1:((k+1:Nat):Int)-1=(k:Int):=by omega);obtain⟨x,hx⟩:∃x,l[k]?=some x:=⟨l[k]'(by have:=HN.out;omega),List.getElem?_eq_getElem _⟩;obtain⟨b,off,rfl,hb,hcell⟩:=HR.out.at (by omega);obtain⟨c0,c1⟩:=hcell k x hx;(have hstep:Pm.find (l.take (k+1)) s=if x.1=s then some x.2 else Pm.find (l.take k) s:=by rw[zD2 hx,find_snoc]);(have hk0:(0:Int)≤(k:Int):=by omega);(have hkn:(k:Int)<(n:Int):=by omega);(have ekn:(k:Int).toNat=k:=by omega);clear hx hcell;by_cases hxs:x.1=s
   · have hs:(x.1.toList==s.toList)=true:=by rw[zFm];exact decide_eq_true hxs
     (have HE:Hid (F=some x.2):=by show _=_;rw[←HK.out,hstep,if_pos hxs]);clear hxs hstep;go_wp2;go_ret2;rw[HE.out];exact⟨rfl,rfl⟩
   · have hs:(x.1.toList==s.toList)=false:=by rw[zFm];exact decide_eq_false hxs
     (have HE:Hid (Pm.find (l.take k) s=F):=by show _=_;rw[←HK.out,hstep,if_neg hxs]);clear hxs hstep;go_wp2;go_roundg k;(case measure=>omega);case rel=>exact⟨k,by first|rfl|go_num,by omega,Nat.le_refl _,rfl,HE⟩
end
section
open Go.RowKit Go.Shelf Go.Lib Nums Fm Pk Pm
namespace Di
theorem zM7(over:List Pr)(p:Pr):norm zAa (over++[p])≠[]:=fun e=>by
 have:=zCq lessB_sto (over++[p]) p.1;rw[e,zEw,find_snoc,if_pos rfl]at this;cases this
theorem zTq{B:Nat}{w W1 w2 w3:World}{db lo hi wb:Nat}{v v3:Value}{base over:List Pr}{p:Pr}(h:DictAt B w db lo hi wb v base over)(hb1:Below w.heap.size w W1)(hg:W1.grownBy w2 v.ownBlock)(hb3:Below w2.heap.size w2 w3)(ho3:POwn w2.heap.size w3 v3 (norm zAa (over++[p])))(hk:Dok base (norm zAa (over++[p]))):
 DictAt B (w3.setCell ⟨db,1,none⟩ v3) db lo hi wb v3 base (norm zAa (over++[p]))∧Upd (fpD db v) w (w3.setCell ⟨db,1,none⟩ v3)∧(∀k,v3.ownBlock=some k→w.heap.size≤k)∧w3.cell? ⟨db,1,none⟩=some v∧w3.frozen? ⟨db,1,none⟩=false:=by
 have hdb:=h.lt;have hu2:Upd (fpD db v) w w2:=(Upd.of_below hb1).trans (G:=fun k=>v.ownBlock=some k) ⟨hg.os,hg.tape,hg.output,hg.size,fun k hk hn=>hg.block k hk (fun e=>hn e.symm)⟩ (fun k _ g => .inr g);have hu3:Upd (fpD db v) w w3:=hu2.trans (G:=fun _=>False) (Upd.of_below hb3) (fun _ _ g=>g.elim);have hb2:w2.heap[db]?=some (.cells #[.pointer (some ⟨wb,0,none⟩),v] 72):=(hg.block db (Nat.lt_of_lt_of_le hdb hb1.size) (fun e=>h.nd e.symm)).trans ((hb1.block db hdb).trans h.blk);have hblk:w3.heap[db]?=some (.cells #[.pointer (some ⟨wb,0,none⟩),v] 72):=(hb3.block db (Nat.lt_of_lt_of_le hdb hu2.size)).trans hb2;have hus:Upd (fun k=>k=db) w3 (w3.setCell ⟨db,1,none⟩ v3):=zBo w3 db 1 _;have hu:Upd (fpD db v) w (w3.setCell ⟨db,1,none⟩ v3):=hu3.trans hus (fun k _ g => .inl g);have hnew:∀k,v3.ownBlock=some k→w.heap.size≤k:=fun k e=>Nat.le_trans hu2.size (zA1 ho3 e).1
 have hv3:v3.ownBlock≠some db:=fun e=>by have:=hnew db e;omega
 refine⟨⟨h.low,hk,h.tabs.go (hu.below h.size fun k g=>(h.fp k g).1),by rw[zAt hblk];rfl,h.wk.keep hu.size (fun j a b=>hu.block j (Nat.lt_of_lt_of_le b h.wk.1) (fun g=>?_)),?_,hv3,h.nw,fun k e=>?_,fun e=>absurd e (zM7 over p)⟩,hu,hnew,by simp[World.cell?,hblk],by simp[World.frozen?,hblk]⟩
 · rcases g with g|g
   · exact h.nw (by rw[←g];exact⟨a,b⟩)
   · exact h.nv j g ⟨a,b⟩
 · have:=zDd ho3 (w':=w3.setCell ⟨db,1,none⟩ v3) fun g hg=>hus.block g (zA1 ho3 hg).2 (fun e=>hv3 (e▸hg))
   exact this.mono (Nat.le_trans h.size hu2.size)
 · have h1:=hnew k e
   have h2:=h.wk.1;omega
theorem zIq{B:Nat}{w w4 w5:World}{db lo hi:Nat}{v:Value}{L:List Pr}(hu:Upd (fpD db v) w w4)(hc:CompSays B w4 w5 db L)(hL:zAe zAa L []=L):MutSays B w w5 db lo hi v L:=by
 obtain⟨lo',hi',wb',hd,hlo⟩:=hc.ex;exact⟨⟨lo',hi',wb',.slice none 0 0,L,[],hd,by simp,hL,.inr (fun k e=>by cases e),.inr (Nat.le_trans hu.size hlo)⟩,hu.trans hc.upd (fun k _ g => .inl g)⟩
theorem zK8(over:List Pr)(p:Pr):(norm zAa (over++[p])).length≤over.length+1:=by
 have:=zHe (over++[p]);rw[List.length_append,List.length_singleton]at this;exact this
theorem zJ8(B:Nat)(w:World)(db lo hi wb:Nat)(v:Value)(base over:List Pr)(h:DictAt B w db lo hi wb v base over)(hf:over.length≤32)(p:Pr)(hw:zAq p.1.data.toList=true)(h0:0≤p.2)(h1:p.2≤1048576)(hl:(zAe zAa base (norm zAa (over++[p]))).length≤4096):
 Calls Tryz.prog 31 #[.pointer (some ⟨db,0,none⟩),.string p.1,.int .i64 p.2] w fun e w'=>e = .returned (.tuple #[])∧MutSays B w w' db lo hi v (zAe zAa base (norm zAa (over++[p]))):=by
 have hnl:=zK8 over p;have hk:=h.ok.next hw h0 h1 hl (by omega)
 obtain⟨vd,vc,rfl⟩:=h.own.shape;obtain⟨c0,c1,_,_⟩:=h.cells;obtain⟨W1,hW1⟩:∃W1,W1=w.alloc (.cells #[.string p.1,.int .i64 p.2] 75):=⟨_,rfl⟩;obtain⟨N,hN⟩:∃N,norm zAa (over++[p])=N:=⟨_,rfl⟩;obtain⟨n,hn⟩:∃n,N.length=n:=⟨_,rfl⟩;have HN:Hid (norm zAa (over++[p])=N∧N.length=n∧n≤33):=⟨hN,hn,by rw[←hn,←hN];omega⟩;have HD:Hid (DictAt B w db lo hi wb (.slice vd over.length vc) base over):=h;have HK:Hid (Dok base (norm zAa (over++[p]))):=hk;have HO:Hid (POwn B w (.slice vd over.length vc) over):=h.own;have HB:Hid (B≤w.heap.size∧over.length≤32):=⟨h.size,hf⟩
 have HNO:Hid (∀W u,PRow W u (over++[p])→Calls Tryz.prog 57 #[u] W fun x w'=>∃a c,x = .returned (.slice a n c)∧POwn W.heap.size w' (.slice a n c) (norm zAa (over++[p]))∧Below W.heap.size W w'):=fun W u hu=>(zSa W u _ hu (by rw[List.length_append,List.length_singleton];omega)).mono (by
  rintro x w' ⟨v',rfl,hown,hb⟩;obtain⟨a,c,hsh⟩:=POwn.shape hown;rw[hN,hn]at hsh;subst hsh;exact⟨a,c,rfl,hown,hb⟩)
 have HC:Hid (∀W v3,DictAt B W db lo hi wb v3 base (norm zAa (over++[p]))→Calls Tryz.prog 27 #[.pointer (some ⟨db,0,none⟩)] W fun e w'=>e = .returned (.tuple #[])∧CompSays B W w' db (zAe zAa base (norm zAa (over++[p])))):=fun W v3 hd=>zIz B W db lo hi wb v3 _ _ hd
 generalize over.length=no at *;clear h hf hw h0 h1 hl hnl hk hN hn hW1 W1;obtain⟨s,x⟩:=p;simp only at *;go_enter Tryz.func31,Tryz.ntmps31
 go_upto_region 1 with(first
  |(at_builtin;refine zGc rfl _ _ rfl B _ _ over [(s,x)] rfl (HO.out.below ((Below.refl _ w).alloc (Nat.le_refl _) _)) rfl (PRow.one (TwoAt.new w (s,x) _)) (by have:=HB.out.2;have:=HD.out.own.shape;obtain⟨_,_,e⟩:=this;simp only[Value.slice.injEq]at e;rw[List.length_singleton];omega) (by have:=HB.out.1;simp;omega) ?_;intro v2 w2 ho2 hb2 hg2;have HG2:Hid ((w.alloc (.cells #[.string s,.int .i64 x] 75)).grownBy w2 (Value.slice vd no vc).ownBlock):=hg2;have HR2:Hid (PRow w2 v2 (over++[(s,x)])):=ho2.row;obtain⟨vd2,n2,vc2,hv2⟩:∃a n c,v2=Value.slice a n c:=(by obtain⟨a,c,e⟩:=ho2.shape;exact⟨_,_,_,e⟩);subst hv2;clear ho2 hb2 hg2)
  |(go_at_call 57;refine(HNO.out _ _ HR2.out).mono ?_;rintro e w3 ⟨a3,c3,rfl,ho3,hb3⟩;obtain⟨k1,k2,k3,k4,k5⟩:=zTq HD.out ((Below.refl _ w).alloc (Nat.le_refl _) _) HG2.out hb3 ho3 HK.out;have HK1:Hid (DictAt B (w3.setCell ⟨db,1,none⟩ (.slice a3 n c3)) db lo hi wb (.slice a3 n c3) base (norm zAa (over++[(s,x)]))):=k1;have HK2:Hid (Upd (fpD db (.slice vd no vc)) w (w3.setCell ⟨db,1,none⟩ (.slice a3 n c3))∧∀k,(Value.slice a3 n c3).ownBlock=some k→w.heap.size≤k):=⟨k2,k3⟩;clear k1 k2 k3 ho3 hb3))
 obtain⟨W4,hW4⟩:∃W4,w3.setCell ⟨db,1,none⟩ (.slice a3 n c3)=W4:=⟨_,rfl⟩;rw[hW4]at HK1 HK2 ⊢;have HCH:Hid (Calls Tryz.prog 58 #[.pointer (some ⟨db,0,none⟩)] W4 fun e w'=>e = .returned (.int .i64 (n:Int))∧w'=W4):=zQa W4 db a3 n c3 HK1.out.cells.2.1;clear hW4 k4 k5 c0 c1;by_cases hn32:32<n
 · have hz:(32:Int)<(n:Int):=by omega
   go_wp2_with (first
    |(go_at_call 58;refine HCH.out.mono ?_;rintro e w5 ⟨rfl,hw5⟩;rw[hw5];clear hw5)
    |(go_at_call 27;refine(HC.out _ _ HK1.out).mono ?_;rintro e w6 ⟨rfl,hcs⟩;have HCS:Hid _:=hcs;clear hcs))
   go_returns;exact⟨rfl,zIq HK2.out.1 HCS.out (Dok.start HK1.out.ok.all).2⟩
 · have hz:¬(32:Int)<(n:Int):=by omega
   go_wp2_with (go_at_call 58;refine HCH.out.mono ?_;rintro e w5 ⟨rfl,hw5⟩;rw[hw5];clear hw5);go_returns;exact⟨rfl,⟨lo,hi,wb,_,base,_,HK1.out,by rw[HN.out.1,HN.out.2.1];omega,rfl,.inr HK2.out.2,.inl ⟨rfl,rfl⟩⟩,HK2.out.1⟩
theorem zOo{base over:List Pr}(h:Dok base over){s:ByteArray}{x:Int}(hf:Pm.find over s=some x):(Pm.find (zAe zAa base over) s).getD 0=x∧(Pm.find (zAe zAa base over) s).isSome=decide (0<x):=by
 rw[h.find,hf];have h0:=(h.wd _ (find_mem hf)).2.1;simp only at h0;by_cases e:x=0
 · subst e;simp
 · simp only[e,if_false]
   refine⟨rfl,?_⟩;symm;exact decide_eq_true (by omega)
theorem zKe(B:Nat)(w:World)(db lo hi wb:Nat)(v:Value)(base over:List Pr)(h:DictAt B w db lo hi wb v base over)(s:ByteArray)(hs:s.size≤9223372036854775807):
 Calls Tryz.prog 29 #[.pointer (some ⟨db,0,none⟩),.string s] w fun e w'=>e = .returned (.tuple #[.int .i64 ((Pm.find (zAe zAa base over) s).getD 0),.bool (Pm.find (zAe zAa base over) s).isSome])∧Below w.heap.size w w':=by
 obtain⟨vd,vc,rfl⟩:=h.own.shape;obtain⟨c0,c1,_,_⟩:=h.cells;have HF:Hid (Calls Tryz.prog 54 #[.slice vd over.length vc,.string s] w fun e w'=>e = .returned (.tuple #[.int .i64 ((Pm.find over s).getD 0),.bool (Pm.find over s).isSome])∧w'=w):=zVl w _ over s h.row (by have:=h.ok.few;omega);generalize over.length=no at *;cases hf:Pm.find over s with
 |some x=>
  obtain⟨e1,e2⟩:=zOo h.ok hf;rw[hf]at HF;rw[e1,e2];simp only[Option.getD_some,Option.isSome_some]at HF;clear h hf e1 e2;go_enter Tryz.func29,Tryz.ntmps29;go_wp2_with (go_at_call 54;refine HF.out.mono ?_;rintro e w1 ⟨rfl,hw1⟩;rw[hw1];clear hw1);go_ret2;exact⟨rfl,Below.refl _ _⟩
 |none=>
  have e1:Pm.find (zAe zAa base over) s=Pm.find base s:=by rw[h.ok.find,hf]
  rw[hf]at HF;rw[e1];simp only[Option.getD_none,Option.isSome_none]at HF;have HW:Hid (Calls Tryz.prog 55 #[.pointer (some ⟨wb,0,none⟩),.string s] w fun e w'=>e = .returned (.tuple #[.int .i64 ((Pm.find base s).getD 0),.bool (Pm.find base s).isSome])∧Below w.heap.size w w'):=zSc w wb base h.on s hs;generalize (Pm.find base s).getD 0=x at *;generalize (Pm.find base s).isSome=b at *;clear h hf e1 hs;go_enter Tryz.func29,Tryz.ntmps29
  go_wp2_with (first
   |(go_at_call 54;refine HF.out.mono ?_;rintro e w1 ⟨rfl,hw1⟩;rw[hw1];clear hw1)
   |(go_at_call 55;refine HW.out.mono ?_;rintro e w2 ⟨rfl,hb2⟩))
  go_ret2;exact⟨rfl,hb2⟩
end Di
namespace Di
structure S5l(db wb pb:Nat)(s:ByteArray)(W:World):Prop where
 c0:W.cell? ⟨db,0,none⟩=some (.pointer (some ⟨wb,0,none⟩))
 p0:W.cell? ⟨pb,0,none⟩=some (.string s)
theorem S5l.facts{db wb pb:Nat}{s:ByteArray}{W:World}(h:S5l db wb pb s W):W.cell? ⟨db,0,none⟩=some (.pointer (some ⟨wb,0,none⟩))∧W.cell? ⟨pb,0,none⟩=some (.string s):=⟨h.1,h.2⟩
theorem S5l.below{db wb pb:Nat}{s:ByteArray}{w w':World}(h:S5l db wb pb s w)(hb:Below w.heap.size w w'):S5l db wb pb s w':=
 ⟨(hb.cell (p:=⟨db,0,none⟩) (World.block_lt_of_cell? _ _ h.c0)).trans h.c0,(hb.cell (p:=⟨pb,0,none⟩) (World.block_lt_of_cell? _ _ h.p0)).trans h.p0⟩
def lenJ(base over:List Pr)(j:Nat):Int:=((zAe zAa base (over.take j)).length:Int)
theorem zWg{base over:List Pr}(h:Dok base over){j:Nat}{p:Pr}(hp:over[j]?=some p):lenJ base over (j+1)=lenJ base over j-(if (Pm.find base p.1).isSome then 1 else 0)+(if 0<p.2 then 1 else 0):=by
 have h1:=len_step lessB_sto h.up hp (zHq h.ok);have h2:=(h.wd p (List.mem_of_getElem? hp)).2.1;unfold lenJ;have e:(if p.2=0 then 0 else 1:Nat)=(if 0<p.2 then 1 else 0):=by
  by_cases h0:p.2=0
  · rw[if_pos h0,if_neg (by omega)]
  · rw[if_neg h0,if_pos (by omega)]
 rw[e]at h1
 split at h1<;>split at h1<;>simp_all<;>omega
theorem Len_any(B:Nat)(w:World)(db lo hi wb:Nat)(v:Value)(base over:List Pr)(h:DictAt B w db lo hi wb v base over):
 Calls Tryz.prog 30 #[.pointer (some ⟨db,0,none⟩)] w fun e w'=>e = .returned (.int .i64 ((zAe zAa base over).length:Int))∧Below w.heap.size w w':=by
 obtain⟨vd,vc,hv⟩:=h.own.shape;subst hv;obtain⟨n,hn⟩:∃n,over.length=n:=⟨_,rfl⟩;rw[hn]at h;have hb0:=(zAp h.ok.ok).2.2;have h33:=h.ok.few;rw[hn]at h33;have HN:Hid (over.length=n):=hn;have HOK:Hid (Dok base over):=h.ok;have HS:Hid (∀W,Below w.heap.size w W→Sdb db wb (.slice vd n vc) W):=fun W hW=>h.sdb.below hW
 have HR:Hid (PRow w (.slice vd n vc) over):=h.row;have HLN:Hid (∀W,Below w.heap.size w W→Calls Tryz.prog 56 #[.pointer (some ⟨wb,0,none⟩)] W fun e w'=>e = .returned (.int .i64 (base.length:Int))∧Below W.heap.size W w'):=fun W hW=>LenW_any W wb base (h.on.below hW)
 have HFD:Hid (∀W s,Below w.heap.size w W→s.size≤9223372036854775807→Calls Tryz.prog 55 #[.pointer (some ⟨wb,0,none⟩),.string s] W fun e w'=>e = .returned (.tuple #[.int .i64 ((Pm.find base s).getD 0),.bool (Pm.find base s).isSome])∧Below W.heap.size W w'):=fun W s hW hs=>zSc W wb base (h.on.below hW) s hs
 have HL0:Hid (lenJ base over 0=(base.length:Int)):=by
  show lenJ base over 0=_;unfold lenJ;rw[List.take_zero,zJv lessB_sto (zGb h.ok.ok) (zHq h.ok.ok)]
 have HLE:Hid (lenJ base over n=((zAe zAa base over).length:Int)):=by
  show lenJ base over n=_;unfold lenJ;rw[List.take_of_length_le (by omega)]
 have HLB:Hid (∀j,0≤lenJ base over j∧lenJ base over j≤8192):=fun j=>by
  unfold lenJ;have h1:(zAe zAa base (over.take j)).length≤(norm zAa (base++over.take j)).length:=List.length_filter_le _ _;have h2:=zHe (base++over.take j);rw[List.length_append]at h2;have h3:(over.take j).length≤over.length:=List.length_take_le' _ _;omega
 have hsd:=h.sdb;obtain⟨c0,c1⟩:=hsd.facts;have HSM:Hid (Sm over):=h.ok.sm.1;clear h hn hb0 hsd;rw[←HLE.out];go_enter Tryz.func30,Tryz.ntmps30;go_upto_region 2 with(go_at_call 56;refine(HLN.out _ (Below.refl _ _)).mono ?_;rintro e w1 ⟨rfl,hb1⟩;have HB1:Hid (Below w.heap.size w w1):=hb1;clear hb1)
 obtain⟨d0,d1⟩:=(HS.out w1 HB1.out).facts;clear c0 c1;rw[←HL0.out];go_wp2;clear d0 d1
 go_loopg [3,5,6,7,18] n (fun gm s3 s5 s6 s7 s18 wr=>∃(j:Nat),s18 = .int .i64 j∧j≤n∧n-j≤gm∧s3 = .int .i64 (lenJ base over j)∧Hid (Below w.heap.size w wr))
 case atStart=>exact⟨0,rfl,Nat.zero_le _,by omega,rfl,HB1⟩
 case round=>
  obtain⟨j,rfl,hj,hgm,rfl,HB⟩:=hrel;by_cases hlt:j<n
  · have hltz:(j:Int)<(n:Int):=by omega
    obtain⟨p,hp⟩:∃p,over[j]?=some p:=⟨over[j]'(by have:=HN.out;omega),List.getElem?_eq_getElem _⟩;obtain⟨g,off,hgo,hg,hcell⟩:=HR.out.at (by omega);subst hgo;obtain⟨x0,x1⟩:=(hcell j p hp).below hg HB.out;have HST:Hid (lenJ base over (j+1)=lenJ base over j-(if (Pm.find base p.1).isSome then 1 else 0)+(if 0<p.2 then 1 else 0)):=zWg HOK.out hp;have HPS:Hid (p.1.size≤9223372036854775807):=HSM.out p (List.mem_of_getElem? hp);obtain⟨q1,q2⟩:=HLB.out j;obtain⟨W5,hW5⟩:∃W5,W5=wr.alloc (.cells #[.string p.1,.int .i64 p.2] 75):=⟨_,rfl⟩;obtain⟨pb,hpb⟩:∃pb,pb=wr.heap.size:=⟨_,rfl⟩;(have hn5:W5.heap[pb]?=some (.cells #[.string p.1,.int .i64 p.2] 75):=by rw[hW5,hpb];exact zAb _ _);(have HB5:Hid (Below w.heap.size w W5):=by show Below _ _ _;rw[hW5];exact HB.out.trans (((Below.refl _ wr).alloc (Nat.le_refl _) _).mono HB.out.size));have hbd:Below W5.heap.size W5 W5.drew:=(Below.refl _ W5).drew;have HBD:Hid (Below w.heap.size w W5.drew):=HB5.out.trans (hbd.mono HB5.out.size);have hS5:S5l db wb pb p.1 W5:=⟨(HS.out W5 HB5.out).c0,by simp[World.cell?,hn5]⟩;have hSd:=hS5.below hbd;have HSD:Hid (S5l db wb pb p.1 W5.drew):=hSd;have HPB:Hid (∀W,Below W5.drew.heap.size W5.drew W→W.cell? ⟨pb,1,none⟩=some (.int .i64 p.2)):=fun W hW=>by
     have h5:W5.drew.heap[pb]?=some (.cells #[.string p.1,.int .i64 p.2] 75):=hn5;have:=(hW.block pb (Array.getElem?_eq_some_iff.1 h5).1).trans h5;simp[World.cell?,this]
    clear hcell hp hn5 hg;(go_upto_region 5 with fail);rw[←hpb,←hW5];clear hpb hW5 x0 x1 hS5 hbd;refine zAh (S:=S5l db wb pb p.1) 12 rfl zAr hSd (fun _=>?_);refine tq4 S5l.facts 0 23 1 24 2 25 3 26 ?_;simp only[sZa,sZb,sZc];refine tq2 S5l.facts 4 27 5 28 ?_;simp only[sZa,sZb,sZc];refine oc 6 W5.drew 29 55 #[.pointer (some ⟨wb,0,none⟩),.string p.1] ?_;refine(HFD.out _ _ HBD.out HPS.out).mono ?_;rintro e W6 ⟨rfl,hb6⟩;have hS6:=HSD.out.below hb6;have HB4:Hid (Below w.heap.size w W6):=HBD.out.trans (hb6.mono HBD.out.size);have y1:=HPB.out W6 hb6;clear hb6;obtain⟨fb,hfb⟩:∃fb,(Pm.find base p.1).isSome=fb:=⟨_,rfl⟩;obtain⟨fx,hfx⟩:∃fx,(Pm.find base p.1).getD 0=fx:=⟨_,rfl⟩;rw[hfb,hfx];have HFB:Hid ((Pm.find base p.1).isSome=fb):=hfb;clear hfb hfx;refine⟨_,rfl,hS6,fun _=>?_⟩;simp only[sZa,sZb,sZc];refine tq4 S5l.facts 7 22 8 30 9 31 10 6 ?_;simp only[sZa,sZb,sZc];refine tq S5l.facts 11 7 ?_;simp only[sZa,sZb,sZc];refine wpAnyH_done (by kernel_rfl) ?_ _;clear hS6 hSd;generalize lenJ base over j=L at *;(have w1:IntKind.i64.wrap (L-1)=L-1:=by rw[IntKind.wrap_i64];omega);have w2:IntKind.i64.wrap (L+1)=L+1:=wrap_small _ (by omega) (by omega);have w3:IntKind.i64.wrap (L-1+1)=L-1+1:=wrap_small _ (by omega) (by omega);cases fb
    · by_cases hp0:0<p.2
      · go_wp2
        go_roundg (n-(j+1));(case measure=>omega);case rel=>exact⟨j+1,by go_num,by omega,Nat.le_refl _,by rw[HST.out,HFB.out];first|rfl|(simp;done)|(simp;omega),HB4.out⟩
      · go_wp2
        go_roundg (n-(j+1));(case measure=>omega);case rel=>exact⟨j+1,by go_num,by omega,Nat.le_refl _,by rw[HST.out,HFB.out];first|rfl|(simp;done)|(simp;omega),HB4.out⟩
    · by_cases hp0:0<p.2
      · go_wp2
        go_roundg (n-(j+1));(case measure=>omega);case rel=>exact⟨j+1,by go_num,by omega,Nat.le_refl _,by rw[HST.out,HFB.out];first|rfl|(simp;done)|(simp;omega),HB4.out⟩
      · go_wp2
        go_roundg (n-(j+1));(case measure=>omega);case rel=>exact⟨j+1,by go_num,by omega,Nat.le_refl _,by rw[HST.out,HFB.out];first|rfl|(simp;done)|(simp;omega),HB4.out⟩
  · have hltz:¬(j:Int)<(n:Int):=by omega
    (have hjn:j=n:=by omega);subst hjn;go_wp2;go_ret;exact⟨rfl,HB.out⟩
end Di
namespace Di
def setE(L:List Pr)(s:ByteArray)(x:Int):Int:=if zAq s.data.toList=false then 140 else if x<1∨1048576<x then 141 else if (Pm.find L s).isSome=false∧4096≤L.length then 142 else 0
def setL(L:List Pr)(s:ByteArray)(x:Int):List Pr:=if setE L s x=0 then put zAa L (s,x)else L
def setH(L:List Pr)(s:ByteArray)(x:Int):Int:=if setE L s x=0 then (Pm.find L s).getD 0 else 0
def remE(L:List Pr)(s:ByteArray):Int:=if zAq s.data.toList=false then 140 else if (Pm.find L s).isSome=false then 143 else 0
def remL(L:List Pr)(s:ByteArray):List Pr:=if remE L s=0 then out s L else L
def remH(L:List Pr)(s:ByteArray):Int:=if remE L s=0 then (Pm.find L s).getD 0 else 0
theorem set_len{L:List Pr}(hb:zAl L=0){s:ByteArray}{x:Int}(he:setE L s x=0):(put zAa L (s,x)).length≤4096:=by
 have h1:=zK3 lessB_sto (s,x) L (zGb hb);have h2:=(zAp hb).2.2;unfold setE at he
 split at he
 · cases he
 · split at he
   · cases he
   · split at he
     · cases he
     · rename_i _ _ h3
       show(putP zAa (s,x) false L).length≤4096;simp only at h1;cases hf:(Pm.find L s).isSome
       · rw[hf]at h1 h3
         simp at h3 h1;omega
       · rw[hf]at h1
         simp at h1;omega
theorem zUy{L:List Pr}{s:ByteArray}{x:Int}(he:setE L s x=0):zAq s.data.toList=true∧1≤x∧x≤1048576:=by
 unfold setE at he
 split at he
 · cases he
 · rename_i h1
   split at he
   · cases he
   · exact⟨by simpa using h1,by omega,by omega⟩
theorem zJq(s:ByteArray)(L:List Pr):(out s L).length≤L.length:=List.length_filter_le _ _
theorem zYu(B:Nat)(w:World)(db lo hi wb:Nat)(v:Value)(base over:List Pr)(h:DictAt B w db lo hi wb v base over)(hf:over.length≤32)(s:ByteArray)(hs:s.size≤9223372036854775807)(x:Int):
 Calls Tryz.prog 13 #[.pointer (some ⟨db,0,none⟩),.string s,.int .i64 x] w fun e w'=>e = .returned (.tuple #[.int .i64 (setH (zAe zAa base over) s x),.int .i64 (setE (zAe zAa base over) s x)])∧MutSays B w w' db lo hi v (setL (zAe zAa base over) s x):=by
 obtain⟨L,hL⟩:∃L,zAe zAa base over=L:=⟨_,rfl⟩;have hall:zAl L=0:=by rw[←hL];exact h.ok.all
 have HWD:Hid (∀W,Below w.heap.size w W→Calls Tryz.prog 28 #[.string s] W fun e w'=>e = .returned (.bool (zAq s.data.toList))∧Below W.heap.size W w'):=fun W hW=>by
  refine(zCa s W (h.tabs.go (hW.mono h.size)).now hs).mono ?_;rintro e w' ⟨rfl,n,rfl⟩;exact⟨rfl,belowN (Below.refl _ _) n⟩
 have HWT:Hid (∀W,Below w.heap.size w W→Calls Tryz.prog 29 #[.pointer (some ⟨db,0,none⟩),.string s] W fun e w'=>e = .returned (.tuple #[.int .i64 ((Pm.find L s).getD 0),.bool (Pm.find L s).isSome])∧Below W.heap.size W w'):=fun W hW=>by
  have:=zKe B W db lo hi wb v base over (h.below hW) s hs;rw[hL]at this;exact this
 have HLN:Hid (∀W,Below w.heap.size w W→Calls Tryz.prog 30 #[.pointer (some ⟨db,0,none⟩)] W fun e w'=>e = .returned (.int .i64 (L.length:Int))∧Below W.heap.size W w'):=fun W hW=>by
  have:=Len_any B W db lo hi wb v base over (h.below hW);rw[hL]at this;exact this
 have HCH:Hid (setE L s x=0→∀W,Below w.heap.size w W→Calls Tryz.prog 31 #[.pointer (some ⟨db,0,none⟩),.string s,.int .i64 x] W fun e w'=>e = .returned (.tuple #[])∧MutSays B w w' db lo hi v (put zAa L (s,x))):=fun he W hW=>by
  obtain⟨g1,g2,g3⟩:=zUy he;have hc:=Dok.change base over (s,x);rw[if_neg (by show x≠0;omega),hL]at hc;refine(zJ8 B W db lo hi wb v base over (h.below hW) hf (s,x) g1 (by show 0≤x;omega) g3 (by rw[hc];exact set_len hall he)).mono ?_;rintro e w' ⟨rfl,hm⟩;rw[hc]at hm;obtain⟨lo',hi',wb',v',b',o',k1,k2,k3,k4,k5⟩:=hm.ex;exact⟨rfl,⟨lo',hi',wb',v',b',o',k1,k2,k3,k4.imp id (fun k j e=>Nat.le_trans hW.size (k j e)),k5.imp id (fun k=>Nat.le_trans hW.size k)⟩,(Upd.of_below hW).trans hm.upd (fun _ _ g=>g)⟩
 have HSM:Hid (∀w',Below w.heap.size w w'→MutSays B w w' db lo hi v L):=fun w' hb=>by
  have:=MutSays.same h hf hb;rw[hL]at this;exact this
 rw[hL];obtain⟨ln,hln⟩:∃ln,L.length=ln:=⟨_,rfl⟩;have hlb:ln≤4096:=by rw[←hln];exact(zAp hall).2.2
 have hpw:=put_same lessB_sto (zGb hall) (p:=(s,x));have hgn:=fun(y:Int) (hy:Pm.find L s=some y)=>((zAp hall).1 _ (find_mem hy)).2.1
 clear h hf hs hL;cases hw:zAq s.data.toList with
 |false=>
  have hE:setE L s x=140:=by unfold setE;rw[if_pos hw]
  have hH:setH L s x=0:=by unfold setH;rw[hE];rfl
  have hLL:setL L s x=L:=by unfold setL;rw[hE];rfl
  rw[hE,hH,hLL];rw[hw]at HWD;clear hE hH hLL hw hall hpw hgn hlb hln;go_enter Tryz.func13,Tryz.ntmps13;go_wp2_with (go_at_call 28;refine(HWD.out _ (Below.refl _ _)).mono ?_;rintro e w1 ⟨rfl,hb1⟩);go_ret2;exact⟨rfl,HSM.out _ hb1⟩
 |true=>
  rw[hw]at HWD;by_cases hx:x<1∨1048576<x
  · have hE:setE L s x=141:=by unfold setE;rw[if_neg (by rw[hw];decide),if_pos hx]
    (have hH:setH L s x=0:=by unfold setH;rw[hE];rfl);(have hLL:setL L s x=L:=by unfold setL;rw[hE];rfl);rw[hE,hH,hLL];clear hE hH hLL hw hall hpw hgn hlb hln;by_cases hx1:x<1
    · clear hx
      go_enter Tryz.func13,Tryz.ntmps13;go_wp2_with (go_at_call 28;refine(HWD.out _ (Below.refl _ _)).mono ?_;rintro e w1 ⟨rfl,hb1⟩);go_ret2;exact⟨rfl,HSM.out _ hb1⟩
    · have hx2:1048576<x:=by omega
      clear hx;go_enter Tryz.func13,Tryz.ntmps13;go_wp2_with (go_at_call 28;refine(HWD.out _ (Below.refl _ _)).mono ?_;rintro e w1 ⟨rfl,hb1⟩);go_ret2;exact⟨rfl,HSM.out _ hb1⟩
  · have hx1:¬x<1:=by omega
    (have hx2:¬1048576<x:=by omega);cases hfd:Pm.find L s with
    |some y=>
     have hy:=hgn y hfd;(have hE:setE L s x=0:=by unfold setE;rw[if_neg (by rw[hw];decide),if_neg hx,if_neg (by rw[hfd];simp)]);(have hH:setH L s x=y:=by unfold setH;rw[if_pos hE,hfd];rfl);(have hLL:setL L s x=put zAa L (s,x):=by unfold setL;rw[if_pos hE]);have HC2:=HCH.out hE;have HC2:Hid (∀W,Below w.heap.size w W→Calls Tryz.prog 31 #[.pointer (some ⟨db,0,none⟩),.string s,.int .i64 x] W fun e w'=>e = .returned (.tuple #[])∧MutSays B w w' db lo hi v (put zAa L (s,x))):=HC2;rw[hE,hH,hLL];rw[hfd]at HWT;simp only[Option.getD_some,Option.isSome_some]at HWT;by_cases hxy:y=x
     · subst hxy
       have HPW:Hid (put zAa L (s,y)=L):=hpw hfd;clear hE hH hLL hw hall hpw hgn hlb hln hfd hx HCH HC2;go_enter Tryz.func13,Tryz.ntmps13
       go_wp2_with (first
        |(go_at_call 28;refine(HWD.out _ (Below.refl _ _)).mono ?_;rintro e w1 ⟨rfl,hb1⟩;have HB1:Hid (Below w.heap.size w w1):=hb1;clear hb1)
        |(go_at_call 29;refine(HWT.out _ HB1.out).mono ?_;rintro e w2 ⟨rfl,hb2⟩;have HB2:Hid (Below w.heap.size w w2):=HB1.out.trans (hb2.mono HB1.out.size);clear hb2))
       go_ret2;exact⟨rfl,by rw[HPW.out];exact HSM.out _ HB2.out⟩
     · have hne:(y==x)=false:=by simpa using hxy
       clear hE hH hLL hw hall hpw hgn hlb hln hfd hx HCH;go_enter Tryz.func13,Tryz.ntmps13
       go_wp2_with (first
        |(go_at_call 28;refine(HWD.out _ (Below.refl _ _)).mono ?_;rintro e w1 ⟨rfl,hb1⟩;have HB1:Hid (Below w.heap.size w w1):=hb1;clear hb1)
        |(go_at_call 29;refine(HWT.out _ HB1.out).mono ?_;rintro e w2 ⟨rfl,hb2⟩;have HB2:Hid (Below w.heap.size w w2):=HB1.out.trans (hb2.mono HB1.out.size);clear hb2)
        |(go_at_call 31;refine(HC2.out _ HB2.out).mono ?_;rintro e w3 ⟨rfl,hm3⟩;have HM3:Hid (MutSays B w w3 db lo hi v (put zAa L (s,x))):=hm3;clear hm3))
       go_ret2;exact⟨rfl,HM3.out⟩
    |none=>
     rw[hfd]at HWT;simp only[Option.getD_none,Option.isSome_none]at HWT;(have hne:(0==x)=false:=by simp;omega);by_cases hfull:4096≤ln
     · have hE:setE L s x=142:=by unfold setE;rw[if_neg (by rw[hw];decide),if_neg hx,if_pos ⟨by rw[hfd];rfl,by omega⟩]
       (have hH:setH L s x=0:=by unfold setH;rw[hE];rfl);(have hLL:setL L s x=L:=by unfold setL;rw[hE];rfl);rw[hE,hH,hLL];rw[hln]at HLN;(have hfz:(4096:Int)≤(ln:Int):=by omega);clear hE hH hLL hw hall hpw hgn hln hfd hx HCH;go_enter Tryz.func13,Tryz.ntmps13
       go_wp2_with (first
        |(go_at_call 28;refine(HWD.out _ (Below.refl _ _)).mono ?_;rintro e w1 ⟨rfl,hb1⟩;have HB1:Hid (Below w.heap.size w w1):=hb1;clear hb1)
        |(go_at_call 29;refine(HWT.out _ HB1.out).mono ?_;rintro e w2 ⟨rfl,hb2⟩;have HB2:Hid (Below w.heap.size w w2):=HB1.out.trans (hb2.mono HB1.out.size);clear hb2)
        |(go_at_call 30;refine(HLN.out _ HB2.out).mono ?_;rintro e w3 ⟨rfl,hb3⟩;have HB3:Hid (Below w.heap.size w w3):=HB2.out.trans (hb3.mono HB2.out.size);clear hb3))
       go_ret2;exact⟨rfl,HSM.out _ HB3.out⟩
     · have hE:setE L s x=0:=by unfold setE;rw[if_neg (by rw[hw];decide),if_neg hx,if_neg (by rw[hln];omega)]
       (have hH:setH L s x=0:=by unfold setH;rw[if_pos hE,hfd];rfl);(have hLL:setL L s x=put zAa L (s,x):=by unfold setL;rw[if_pos hE]);have HC2:=HCH.out hE;have HC2:Hid (∀W,Below w.heap.size w W→Calls Tryz.prog 31 #[.pointer (some ⟨db,0,none⟩),.string s,.int .i64 x] W fun e w'=>e = .returned (.tuple #[])∧MutSays B w w' db lo hi v (put zAa L (s,x))):=HC2;rw[hE,hH,hLL];rw[hln]at HLN;(have hfz:¬(4096:Int)≤(ln:Int):=by omega);clear hE hH hLL hw hall hpw hgn hln hfd hx HCH;go_enter Tryz.func13,Tryz.ntmps13
       go_wp2_with (first
        |(go_at_call 28;refine(HWD.out _ (Below.refl _ _)).mono ?_;rintro e w1 ⟨rfl,hb1⟩;have HB1:Hid (Below w.heap.size w w1):=hb1;clear hb1)
        |(go_at_call 29;refine(HWT.out _ HB1.out).mono ?_;rintro e w2 ⟨rfl,hb2⟩;have HB2:Hid (Below w.heap.size w w2):=HB1.out.trans (hb2.mono HB1.out.size);clear hb2)
        |(go_at_call 30;refine(HLN.out _ HB2.out).mono ?_;rintro e w3 ⟨rfl,hb3⟩;have HB3:Hid (Below w.heap.size w w3):=HB2.out.trans (hb3.mono HB2.out.size);clear hb3)
        |(go_at_call 31;refine(HC2.out _ HB3.out).mono ?_;rintro e w4 ⟨rfl,hm4⟩;have HM4:Hid (MutSays B w w4 db lo hi v (put zAa L (s,x))):=hm4;clear hm4))
       go_ret2;exact⟨rfl,HM4.out⟩
theorem zT6(B:Nat)(w:World)(db lo hi wb:Nat)(v:Value)(base over:List Pr)(h:DictAt B w db lo hi wb v base over)(hf:over.length≤32)(s:ByteArray)(hs:s.size≤9223372036854775807):
 Calls Tryz.prog 25 #[.pointer (some ⟨db,0,none⟩),.string s] w fun e w'=>e = .returned (.tuple #[.int .i64 (remH (zAe zAa base over) s),.int .i64 (remE (zAe zAa base over) s)])∧MutSays B w w' db lo hi v (remL (zAe zAa base over) s):=by
 obtain⟨L,hL⟩:∃L,zAe zAa base over=L:=⟨_,rfl⟩;have hlen:L.length≤4096:=by rw[←hL];exact h.ok.len
 have HWD:Hid (∀W,Below w.heap.size w W→Calls Tryz.prog 28 #[.string s] W fun e w'=>e = .returned (.bool (zAq s.data.toList))∧Below W.heap.size W w'):=fun W hW=>by
  refine(zCa s W (h.tabs.go (hW.mono h.size)).now hs).mono ?_;rintro e w' ⟨rfl,n,rfl⟩;exact⟨rfl,belowN (Below.refl _ _) n⟩
 have HWT:Hid (∀W,Below w.heap.size w W→Calls Tryz.prog 29 #[.pointer (some ⟨db,0,none⟩),.string s] W fun e w'=>e = .returned (.tuple #[.int .i64 ((Pm.find L s).getD 0),.bool (Pm.find L s).isSome])∧Below W.heap.size W w'):=fun W hW=>by
  have:=zKe B W db lo hi wb v base over (h.below hW) s hs;rw[hL]at this;exact this
 have HCH:Hid (zAq s.data.toList=true→∀W,Below w.heap.size w W→Calls Tryz.prog 31 #[.pointer (some ⟨db,0,none⟩),.string s,.int .i64 0] W fun e w'=>e = .returned (.tuple #[])∧MutSays B w w' db lo hi v (out s L)):=fun he W hW=>by
  have hc:=Dok.change base over (s,0);rw[if_pos rfl,hL]at hc;refine(zJ8 B W db lo hi wb v base over (h.below hW) hf (s,0) he (Int.le_refl _) (by show(0:Int)≤1048576;omega) (by rw[hc];exact Nat.le_trans (zJq s L) hlen)).mono ?_;rintro e w' ⟨rfl,hm⟩;rw[hc]at hm;obtain⟨lo',hi',wb',v',b',o',k1,k2,k3,k4,k5⟩:=hm.ex;exact⟨rfl,⟨lo',hi',wb',v',b',o',k1,k2,k3,k4.imp id (fun k j e=>Nat.le_trans hW.size (k j e)),k5.imp id (fun k=>Nat.le_trans hW.size k)⟩,(Upd.of_below hW).trans hm.upd (fun _ _ g=>g)⟩
 have HSM:Hid (∀w',Below w.heap.size w w'→MutSays B w w' db lo hi v L):=fun w' hb=>by
  have:=MutSays.same h hf hb;rw[hL]at this;exact this
 rw[hL];clear h hf hs hL hlen;cases hw:zAq s.data.toList with
 |false=>
  have hE:remE L s=140:=by unfold remE;rw[if_pos hw]
  have hH:remH L s=0:=by unfold remH;rw[hE];rfl
  have hLL:remL L s=L:=by unfold remL;rw[hE];rfl
  rw[hE,hH,hLL];rw[hw]at HWD;clear hE hH hLL hw;go_enter Tryz.func25,Tryz.ntmps25;go_wp2_with (go_at_call 28;refine(HWD.out _ (Below.refl _ _)).mono ?_;rintro e w1 ⟨rfl,hb1⟩);go_ret2;exact⟨rfl,HSM.out _ hb1⟩
 |true=>
  have HC2:=HCH.out hw;have HC2:Hid (∀W,Below w.heap.size w W→Calls Tryz.prog 31 #[.pointer (some ⟨db,0,none⟩),.string s,.int .i64 0] W fun e w'=>e = .returned (.tuple #[])∧MutSays B w w' db lo hi v (out s L)):=HC2;rw[hw]at HWD;cases hfd:Pm.find L s with
  |none=>
   (have hE:remE L s=143:=by unfold remE;rw[if_neg (by rw[hw];decide),if_pos (by rw[hfd];rfl)]);(have hH:remH L s=0:=by unfold remH;rw[hE];rfl);(have hLL:remL L s=L:=by unfold remL;rw[hE];rfl);rw[hE,hH,hLL];rw[hfd]at HWT;simp only[Option.getD_none,Option.isSome_none]at HWT;clear hE hH hLL hw hfd HCH HC2;go_enter Tryz.func25,Tryz.ntmps25
   go_wp2_with (first
    |(go_at_call 28;refine(HWD.out _ (Below.refl _ _)).mono ?_;rintro e w1 ⟨rfl,hb1⟩;have HB1:Hid (Below w.heap.size w w1):=hb1;clear hb1)
    |(go_at_call 29;refine(HWT.out _ HB1.out).mono ?_;rintro e w2 ⟨rfl,hb2⟩;have HB2:Hid (Below w.heap.size w w2):=HB1.out.trans (hb2.mono HB1.out.size);clear hb2))
   go_ret2;exact⟨rfl,HSM.out _ HB2.out⟩
  |some y=>
   (have hE:remE L s=0:=by unfold remE;rw[if_neg (by rw[hw];decide),if_neg (by rw[hfd];simp)]);(have hH:remH L s=y:=by unfold remH;rw[if_pos hE,hfd];rfl);(have hLL:remL L s=out s L:=by unfold remL;rw[if_pos hE]);rw[hE,hH,hLL];rw[hfd]at HWT;simp only[Option.getD_some,Option.isSome_some]at HWT;clear hE hH hLL hw hfd HCH;go_enter Tryz.func25,Tryz.ntmps25
   go_wp2_with (first
    |(go_at_call 28;refine(HWD.out _ (Below.refl _ _)).mono ?_;rintro e w1 ⟨rfl,hb1⟩;have HB1:Hid (Below w.heap.size w w1):=hb1;clear hb1)
    |(go_at_call 29;refine(HWT.out _ HB1.out).mono ?_;rintro e w2 ⟨rfl,hb2⟩;have HB2:Hid (Below w.heap.size w w2):=HB1.out.trans (hb2.mono HB1.out.size);clear hb2)
    |(go_at_call 31;refine(HC2.out _ HB2.out).mono ?_;rintro e w3 ⟨rfl,hm3⟩;have HM3:Hid (MutSays B w w3 db lo hi v (out s L)):=hm3;clear hm3))
   go_ret2;exact⟨rfl,HM3.out⟩
end Di
end
namespace Mq
open Go.Sort Pm
section
variable {κ:Type} {less:κ→κ→Bool}
def Up(less:κ→κ→Bool)(l:List (κ×(Int×Int))):Prop:=l.Pairwise fun x y=>less y.1 x.1=false
def SUp(less:κ→κ→Bool)(l:List (κ×(Int×Int))):Prop:=l.Pairwise fun x y=>less x.1 y.1=true
theorem SUp.up(o:STO less){l:List (κ×(Int×Int))}(h:SUp less l):Up less l:=h.imp fun h=>o.asymm h
theorem up_le(o:STO less){L R:List (κ×(Int×Int))}{x y:κ×(Int×Int)}(hL:Up less (L++[x]))(hR:Up less (y::R))(h:less y.1 x.1=false):∀u∈L++[x],∀v∈y::R,less v.1 u.1=false:=by
 obtain⟨_,_,pL⟩:=List.pairwise_append.1 hL;obtain⟨pR,_⟩:=List.pairwise_cons.1 hR;have hux:∀u∈L++[x],less y.1 u.1=false:=fun u hu=>by
  rcases List.mem_append.1 hu with a|a
  · exact o.ntr (pL u a x (List.mem_singleton.2 rfl)) h
  · rw[List.mem_singleton.1 a];exact h
 intro u hu v hv;rcases List.mem_cons.1 hv with rfl|b
 · exact hux u hu
 · exact o.ntr (hux u hu) (pR v b)
theorem up_lt(o:STO less){L R:List (κ×(Int×Int))}{x y:κ×(Int×Int)}(hR:Up less (R++[y]))(hL:Up less (x::L))(h:less y.1 x.1=true):∀u∈R++[y],∀v∈x::L,less u.1 v.1=true:=by
 obtain⟨_,_,pR⟩:=List.pairwise_append.1 hR;obtain⟨pL,_⟩:=List.pairwise_cons.1 hL;have hux:∀u∈R++[y],less u.1 x.1=true:=fun u hu=>by
  rcases List.mem_append.1 hu with a|a
  · have h1:=pR u a y (List.mem_singleton.2 rfl)
    cases e:less u.1 x.1 with
    |true=>rfl
    |false=>have:=o.ntr e h1;rw[h]at this;cases this
  · rw[List.mem_singleton.1 a];exact h
 intro u hu v hv;rcases List.mem_cons.1 hv with rfl|b
 · exact hux u hu
 · have h1:=pL v b
   have h2:=hux u hu;cases e:less u.1 v.1 with
   |true=>rfl
   |false=>have:=o.ntr h1 e;rw[h2]at this;cases this
def plt(less:κ→κ→Bool)(x y:κ×(Int×Int)):Bool:=less x.1 y.1
theorem plt_swo(o:STO less):SWO (plt less):=⟨fun _=>o.irr _,fun _ _ _ h1 h2=>o.tr _ _ _ h1 h2,fun _ _ _ h1 h2=>o.ntr h2 h1⟩
end
variable {κ:Type} [DecidableEq κ] {less:κ→κ→Bool}
def of(k:κ)(l:List (κ×(Int×Int))):List (κ×(Int×Int)):=l.filter fun x=>decide (x.1=k)
theorem of_append(k:κ)(a b:List (κ×(Int×Int))):of k (a++b)=of k a++of k b:=List.filter_append ..
theorem of_cons_same(x:κ×(Int×Int))(l:List (κ×(Int×Int))):of x.1 (x::l)=x::of x.1 l:=by simp[of]
theorem of_cons_ne{k:κ}{x:κ×(Int×Int)}(h:x.1≠k)(l:List (κ×(Int×Int))):of k (x::l)=of k l:=by simp[of,h]
def Stably(less:κ→κ→Bool)(l l':List (κ×(Int×Int))):Prop:=Up less l'∧∀k,of k l'=of k l
theorem Stably.self{l:List (κ×(Int×Int))}(h:Up less l):Stably less l l:=⟨h,fun _=>rfl⟩
theorem Stably.trans{a b c:List (κ×(Int×Int))}(h1:∀k,of k b=of k a)(h2:Stably less b c):Stably less a c:=⟨h2.1,fun k=>(h2.2 k).trans (h1 k)⟩
theorem of_mem{k:κ}{l:List (κ×(Int×Int))}{x:κ×(Int×Int)}:x∈of k l↔x∈l∧x.1=k:=by simp[of]
theorem mem_of_same{a b:List (κ×(Int×Int))}(h:∀k,of k b=of k a){x:κ×(Int×Int)}(hx:x∈b):x∈a:=by
 have:x∈of x.1 b:=of_mem.2 ⟨hx,rfl⟩;rw[h]at this;exact(of_mem.1 this).1
theorem of_len(a:List (κ×(Int×Int))):∀b:List (κ×(Int×Int)),(∀k,of k b=of k a)→b.length=a.length:=by
 induction a with
 |nil=>
  intro b h;cases b with
  |nil=>rfl
  |cons x r=>have:=h x.1;rw[of_cons_same]at this;cases this
 |cons y a ih=>
  intro b h;have hy:y∈b:=by
   (have:y∈of y.1 b:=by rw[h,of_cons_same];exact List.mem_cons_self ..);exact(of_mem.1 this).1
  have key:∀b:List (κ×(Int×Int)),of y.1 b=y::of y.1 a→∃p q,b=p++y::q∧of y.1 p=[]∧of y.1 q=of y.1 a:=by
   intro b
   induction b with
   |nil=>intro h;cases h
   |cons z r ih2=>
    intro h;by_cases hz:z.1=y.1
    · rw[←hz,of_cons_same,hz]at h
      simp only[List.cons.injEq]at h;obtain⟨rfl,h2⟩:=h;exact⟨[],r,rfl,rfl,h2⟩
    · rw[of_cons_ne hz]at h
      obtain⟨p,q,rfl,h1,h2⟩:=ih2 h;exact⟨z::p,q,rfl,by rw[of_cons_ne hz];exact h1,h2⟩
  obtain⟨p,q,rfl,h1,h2⟩:=key b (by rw[h,of_cons_same]);have hpq:∀k,of k (p++q)=of k a:=fun k=>by
   by_cases hk:y.1=k
   · subst hk;rw[of_append,h1,h2];rfl
   · have:=h k
     rw[of_append,of_cons_ne hk,of_cons_ne hk]at this;rw[of_append];exact this
  have:=ih (p++q) hpq;simp at this ⊢;omega
theorem Stably.len{a b:List (κ×(Int×Int))}(h:Stably less a b):b.length=a.length:=of_len a b h.2
theorem of_comm(o:STO less){x y:List (κ×(Int×Int))}(h:∀u∈x,∀v∈y,less u.1 v.1=true)(k:κ):of k (x++y)=of k (y++x):=by
 rw[of_append,of_append];cases e:of k x with
 |nil=>simp
 |cons u r=>
  have hu:u∈of k x:=by rw[e];exact List.mem_cons_self ..
  have e2:of k y=[]:=by
   cases e3:of k y with
   |nil=>rfl
   |cons v s=>
    (have hv:v∈of k y:=by rw[e3];exact List.mem_cons_self ..);obtain⟨u1,u2⟩:=of_mem.1 hu;obtain⟨v1,v2⟩:=of_mem.1 hv;have:=h u u1 v v1;rw[u2,v2,o.irr]at this;cases this
  rw[e2];simp
theorem Stably.join{a b c d:List (κ×(Int×Int))}(h1:Stably less a c)(h2:Stably less b d)(h:∀x∈a,∀y∈b,less y.1 x.1=false):Stably less (a++b) (c++d):=by
 refine⟨List.pairwise_append.2 ⟨h1.1,h2.1,fun x hx y hy=>h x (mem_of_same h1.2 hx) y (mem_of_same h2.2 hy)⟩,fun k=>?_⟩;rw[of_append,of_append,h1.2,h2.2]
theorem insert_left(o:STO less){x:κ×(Int×Int)}{a b:List (κ×(Int×Int))}(hup:Up less (a++b))(h1:∀u∈a,less u.1 x.1=true)(h2:∀u∈b,less u.1 x.1=false):Stably less (x::(a++b)) (a++x::b):=by
 obtain⟨p1,p2,p3⟩:=List.pairwise_append.1 hup;refine⟨List.pairwise_append.2 ⟨p1,List.pairwise_cons.2 ⟨h2,p2⟩,fun u hu v hv=>?_⟩,fun k=>?_⟩
 · rcases List.mem_cons.1 hv with rfl|hv
   · exact o.asymm (h1 u hu)
   · exact p3 u hu v hv
 · have:=of_comm o (x:=a) (y:=[x]) (fun u hu v hv=>by rw[List.mem_singleton.1 hv];exact h1 u hu) k
   rw[show a++x::b=(a++[x])++b by simp,show x::(a++b)=([x]++a)++b by simp,of_append,this,←of_append]
theorem insert_right(o:STO less){y:κ×(Int×Int)}{a b:List (κ×(Int×Int))}(hup:Up less (a++b))(h1:∀u∈a,less y.1 u.1=false)(h2:∀u∈b,less y.1 u.1=true):Stably less (a++b++[y]) (a++y::b):=by
 obtain⟨p1,p2,p3⟩:=List.pairwise_append.1 hup;refine⟨List.pairwise_append.2 ⟨p1,List.pairwise_cons.2 ⟨fun u hu=>o.asymm (h2 u hu),p2⟩,fun u hu v hv=>?_⟩,fun k=>?_⟩
 · rcases List.mem_cons.1 hv with rfl|hv
   · exact h1 u hu
   · exact p3 u hu v hv
 · have:=of_comm o (x:=[y]) (y:=b) (fun u hu v hv=>by rw[List.mem_singleton.1 hu];exact h2 v hv) k
   rw[show a++y::b=a++([y]++b)by simp,show a++b++[y]=a++(b++[y])by simp,of_append,this,←of_append]
theorem turned(o:STO less){L1 L2 R1 R2 X Y:List (κ×(Int×Int))}(hL:Up less (L1++L2))(hR:Up less (R1++R2))(h1:∀u∈L1,∀v∈R2,less v.1 u.1=false)(h2:∀u∈R1,∀v∈L2,less u.1 v.1=true)
 (hX:Stably less (L1++R1) X) (hY:Stably less (L2++R2) Y):Stably less (L1++L2++(R1++R2)) (X++Y):=by
 refine Stably.trans (b:=L1++R1++(L2++R2)) (fun k=>?_) (hX.join hY fun x hx y hy=>?_)
 · have:=of_comm o h2 k
   simp only[of_append,List.append_assoc]at this ⊢;rw[←List.append_assoc (of k R1),this,List.append_assoc]
 · obtain⟨_,_,pL⟩:=List.pairwise_append.1 hL
   obtain⟨_,_,pR⟩:=List.pairwise_append.1 hR;rcases List.mem_append.1 hx with a|a<;>rcases List.mem_append.1 hy with b|b
   · exact pL x a y b
   · exact h1 x a y b
   · exact o.asymm (h2 x a y b)
   · exact pR x a y b
variable [Inhabited κ]
theorem insInner_of(o:STO less)(a:Nat):∀(j:Nat) (d:Array (κ×(Int×Int))),j<d.size→(insInner (plt less) a j d).size=d.size∧∀k,of k (insInner (plt less) a j d).toList=of k d.toList
 |0,d,_=>⟨rfl,fun _=>rfl⟩
 |j+1,d,hj=>by
  unfold insInner
  split
  · next h=>
    obtain⟨l⟩:=d;(have hj':j+1<l.length:=by simpa using hj);obtain⟨P,x,T,e,hl⟩:=zPm l j (by omega);(have hT:T≠[]:=fun h=>by rw[e,h]at hj';simp at hj';omega);cases T with
    |nil=>exact absurd rfl hT
    |cons y S=>
     subst e;subst hl;(have g1:(P++x::y::S).toArray[P.length+1]! = y:=by simp);(have g2:(P++x::y::S).toArray[P.length]! = x:=by simp);have hlt:less y.1 x.1=true:=by
      simp only[Bool.and_eq_true,decide_eq_true_eq]at h;have:=h.2;rw[g1,g2]at this;exact this
     rw[zOr];obtain⟨i1,i2⟩:=insInner_of o a P.length (P++y::x::S).toArray (by simp);refine⟨by rw[i1];simp,fun k=>?_⟩;rw[i2];have:=of_comm o (x:=[y]) (y:=[x]) (fun u hu v hv=>by rw[List.mem_singleton.1 hu,List.mem_singleton.1 hv];exact hlt) k;show of k (P++([y,x]++S))=of k (P++([x,y]++S));rw[of_append,of_append k [y,x],of_append,of_append k [x,y]];rw[show[y,x]=[y]++[x]from rfl,show[x,y]=[x]++[y]from rfl,this]
  · exact⟨rfl,fun _=>rfl⟩
theorem insOuter_of(o:STO less)(a b:Nat):∀(n i:Nat) (d:Array (κ×(Int×Int))),b-i=n→b≤d.size→∀k,of k (insOuter (plt less) a b i d).toList=of k d.toList
 |0,i,d,h,_,k=>by rw[insOuter,if_neg (by omega)]
 |n+1,i,d,h,hb,k=>by
  obtain⟨i1,i2⟩:=insInner_of o a i d (by omega);rw[insOuter,if_pos (by omega),insOuter_of o a b n (i+1) _ (by omega) (by rw[i1];exact hb),i2]
theorem ins_list(o:STO less)(A X B:List (κ×(Int×Int))):∃X',insertionSort (plt less) (A++(X++B)).toArray A.length (A.length+X.length)=(A++(X'++B)).toArray∧Stably less X X':=by
 obtain⟨⟨h1,h2,_⟩,h3⟩:=insertionSort_holds (lt:=plt less) (plt_swo o) (A++(X++B)).toArray A.length (A.length+X.length) (by omega) (by simp);have hof:=insOuter_of o A.length (A.length+X.length) _ (A.length+1) (A++(X++B)).toArray rfl (by simp);change ∀k,of k (insertionSort (plt less) (A++(X++B)).toArray A.length (A.length+X.length)).toList=_ at hof;generalize insertionSort (plt less) (A++(X++B)).toArray A.length (A.length+X.length)=d at h1 h2 h3 hof ⊢;obtain⟨l⟩:=d;have hl:l.length=A.length+(X.length+B.length):=by simpa using h1
 obtain⟨A',r,rfl,hA⟩:=zG8 l A.length (by omega);have hr:r.length=X.length+B.length:=by simp at hl;omega
 obtain⟨X',B',rfl,hX⟩:=zG8 r X.length (by omega);have hB:B'.length=B.length:=by simp at hr;omega
 have eA:A'=A:=by
  refine List.ext_getElem hA fun i p q=>?_
  have:=h2 i (.inl q);simpa[List.getElem?_append_left p,List.getElem?_append_left q,p,q]using this
 have eB:B'=B:=by
  refine List.ext_getElem hB fun i p q=>?_
  have:=h2 (A.length+X.length+i) (.inr (by omega));rw[eA]at this;simpa[List.getElem?_append_right,hX,Nat.add_assoc,p,q]using this
 subst eA;subst eB;refine⟨X',rfl,?_,fun k=>?_⟩
 · refine List.pairwise_iff_getElem.2 fun i j hi hj hij=>?_
   have:=h3 (A'.length+i) (A'.length+j) (by omega) (by omega) (by omega);simpa[plt,List.getElem?_append_right,List.getElem?_append_left hi,List.getElem?_append_left hj,hi,hj]using this
 · have:=hof k
   simp only[of_append,List.append_cancel_left_eq,List.append_cancel_right_eq]at this;exact this
end Mq
section
namespace Mq
open Go.RowKit Go.Shelf Go.Lib Go.Sort Pm
abbrev Pr:=ByteArray×(Int×Int)
def encP(x:Pr):List Value:=[.string x.1,.int .i64 x.2.1,.int .i64 x.2.2]
def valP(x:Pr):Value := .agg #[.string x.1,.int .i64 x.2.1,.int .i64 x.2.2]
def cfP(x y:Pr):Int:=if zAa x.1 y.1 then -1 else if zAa y.1 x.1 then 1 else 0
theorem cfP_lt(x y:Pr):ltOf cfP x y=plt zAa x y:=by
 unfold ltOf cfP plt;cases zAa x.1 y.1<;>cases zAa y.1 x.1<;>rfl
theorem cfP_ltf:ltOf cfP=plt zAa:=funext fun x=>funext fun y=>cfP_lt x y
theorem inOrder_any(a b:ByteArray)(w:World):Calls Tryz.prog 68 #[.string a,.string b] w fun e w'=>e = .returned (.int .i64 (if zAa a b then -1 else if zAa b a then 1 else 0))∧w'=w:=by
 have h1:=fun W'=>zDe a b W'
 have h2:=fun W'=>zDe b a W'
 have HC:Hid ((if zAa a b then (-1:Int)else if zAa b a then 1 else 0)=if zAa a b then -1 else if zAa b a then 1 else 0):=rfl;generalize zAa a b=b1 at h1 HC ⊢;generalize zAa b a=b2 at h2 HC ⊢;cases b1
 · cases b2
   all_goals
    go_enter Tryz.func68,Tryz.ntmps68;go_wp2_with (first|(go_at_call 72;refine(h1 _).mono ?_;rintro e w' ⟨rfl,rfl⟩)|(go_at_call 72;refine(h2 _).mono ?_;rintro e w' ⟨rfl,rfl⟩));go_ret;exact⟨rfl,rfl⟩
 · go_enter Tryz.func68,Tryz.ntmps68
   go_wp2_with (go_at_call 72;refine(h1 _).mono ?_;rintro e w' ⟨rfl,rfl⟩);go_ret;exact⟨rfl,rfl⟩
theorem byWord_any(x y:Pr)(W:World):Calls Tryz.prog 67 #[.agg #[.string x.1,.int .i64 x.2.1,.int .i64 x.2.2],.agg #[.string y.1,.int .i64 y.2.1,.int .i64 y.2.2]] W fun e w'=>e = .returned (.int .i64 (cfP x y))∧∃q os',w'=grow (W.drewN q) os':=by
 have h1:=fun W'=>inOrder_any x.1 y.1 W'
 have HC:Hid (cfP x y=if zAa x.1 y.1 then -1 else if zAa y.1 x.1 then 1 else 0):=rfl;generalize (if zAa x.1 y.1 then (-1:Int)else if zAa y.1 x.1 then 1 else 0)=c at h1 HC;go_enter Tryz.func67,Tryz.ntmps67;go_wp2_with (go_at_call 68;refine(h1 _).mono ?_;rintro e w' ⟨rfl,rfl⟩);go_ret;exact⟨by rw[HC.out];rfl,0,_,by rw[alloc_eq_grow,alloc_eq_grow,grow_grow];rfl⟩
theorem byWord_lays(blk off size:Nat)(w:World):CmpLays Tryz.prog 67 #[] encP 3 cfP blk off size w:=
 fun _ _ _ _ x y=>byWord_any x y _
def loadP(P:Program)(x:Value)(w:World):Result Value:=(Instr.loadAt 52 x).run P w
def storeP(P:Program)(x y:Value)(w:World):Result Unit:=(Instr.storeAt 52 x y).run P w
section
variable (ρ:Operand→Value) (x y:Operand) (dst:Option Tmp) (ty:TypeId) (pos:String) (af:Array Edge) (g:Option (Nat×Bool)) (w:World)
theorem exec_load_P:(execOp ρ ⟨dst,.load 52 x,ty,pos,af,g⟩).run Tryz.prog w=(loadP Tryz.prog (ρ x) w).andThen (fun v w' => .ok (.value v) w'):=by
 simp only[execOp,Sem.run_bind,loadP,Sem.run_pure]
theorem exec_store_P:(execOp ρ ⟨dst,.store 52 x y,ty,pos,af,g⟩).run Tryz.prog w=(storeP Tryz.prog (ρ x) (ρ y) w).andThen (fun _ w' => .ok .skip w'):=by
 simp only[execOp,Sem.run_bind,storeP,Sem.run_pure]
end
theorem loadP_at{w:World}{b o:Nat}{x:Pr}(h0:w.cell? ⟨b,o,none⟩=some (.string x.1))(h1:w.cell? ⟨b,o+1,none⟩=some (.int .i64 x.2.1))(h2:w.cell? ⟨b,o+2,none⟩=some (.int .i64 x.2.2)):loadP Tryz.prog (.pointer (some ⟨b,o,none⟩)) w = .ok (valP x) w:=by
 unfold loadP valP;simp[go_sem,h0,h1,h2];try rfl
theorem storeP_at{w:World}{b o:Nat}{x:Pr}{u v z:Value}(h0:w.cell? ⟨b,o,none⟩=some u)(h1:w.cell? ⟨b,o+1,none⟩=some v)(h2:w.cell? ⟨b,o+2,none⟩=some z)(f0:w.frozen? ⟨b,o,none⟩=false)(f1:w.frozen? ⟨b,o+1,none⟩=false)(f2:w.frozen? ⟨b,o+2,none⟩=false):storeP Tryz.prog (.pointer (some ⟨b,o,none⟩)) (valP x) w = .ok () (w.setCells b o (encP x)):=by
 unfold storeP valP;simp[go_sem,h0,h1,h2,f0,f1,f2,encP,World.setCells];try rfl
theorem cellP0{w:World}{blk off:Nat}{d:Array Pr}(h:HoldsK encP 3 w blk off d){i:Nat}(hi:i<d.size):w.cell? ⟨blk,off+i*3,none⟩=some (.string d[i]!.1)∧w.frozen? ⟨blk,off+i*3,none⟩=false:=h.cell (c:=0) hi (by omega)
theorem cellP1{w:World}{blk off:Nat}{d:Array Pr}(h:HoldsK encP 3 w blk off d){i:Nat}(hi:i<d.size):w.cell? ⟨blk,off+i*3+1,none⟩=some (.int .i64 d[i]!.2.1)∧w.frozen? ⟨blk,off+i*3+1,none⟩=false:=h.cell (c:=1) hi (by omega)
theorem zYd{w:World}{blk off:Nat}{d:Array Pr}(h:HoldsK encP 3 w blk off d){i:Nat}(hi:i<d.size):w.cell? ⟨blk,off+i*3+2,none⟩=some (.int .i64 d[i]!.2.2)∧w.frozen? ⟨blk,off+i*3+2,none⟩=false:=h.cell (c:=2) hi (by omega)
theorem encP_k(x:Pr):(encP x).length=3:=rfl
theorem encP_one(x:Pr):∀v∈encP x,v.oneCell'=true:=by intro v hv;simp[encP]at hv;rcases hv with rfl|rfl|rfl<;>rfl
structure RowP(w0:World)(blk off n:Nat):Prop where
 ex:∃d0:Array Pr,d0.size=n∧RowK encP 3 w0 blk off d0
 big:n<4611686018427387904
section
variable {w0 W:World} {blk off n:Nat} {d:Array Pr}
theorem RowP.holds(R:RowP w0 blk off n)(S:SWK encP 3 w0 blk off d W)(hs:d.size=n):HoldsK encP 3 W blk off d:=by
 obtain⟨⟨d0,e,K⟩,_⟩:=R;exact S.holds K.hblk K.hH (by omega)
theorem RowP.load(R:RowP w0 blk off n)(S:SWK encP 3 w0 blk off d W)(hs:d.size=n)(i:Nat)(hi:i<n):loadP Tryz.prog (.pointer (some ⟨blk,off+i*3,none⟩)) W = .ok (valP d[i]!) W:=by
 have H:=R.holds S hs;exact loadP_at (cellP0 H (by omega)).1 (cellP1 H (by omega)).1 (zYd H (by omega)).1
theorem RowP.ld(R:RowP w0 blk off n)(S:SWK encP 3 w0 blk off d W)(hs:d.size=n)(i:Nat)(hi:i<n)(q:Nat)(os:Array Obj):loadP Tryz.prog (.pointer (some ⟨blk,off+i*3,none⟩)) (grow (W.drewN q) os) = .ok (valP d[i]!) (grow (W.drewN q) os):=R.load (S.grown q os) hs i hi
theorem RowP.ld1(R:RowP w0 blk off n)(S:SWK encP 3 w0 blk off d W)(hs:d.size=n)(i:Nat)(hi:i<n):loadP Tryz.prog (.pointer (some ⟨blk,off+i*3,none⟩)) W.drew = .ok (valP d[i]!) W.drew:=R.load S.drew hs i hi
theorem RowP.st1(R:RowP w0 blk off n)(S:SWK encP 3 w0 blk off d W)(hs:d.size=n)(i:Nat)(hi:i<n)(y:Pr):storeP Tryz.prog (.pointer (some ⟨blk,off+i*3,none⟩)) (valP y) W.drew = .ok () (W.drew.setCells blk (off+i*3) (encP y)):=by
 have H:=R.holds S.drew hs;exact storeP_at (cellP0 H (by omega)).1 (cellP1 H (by omega)).1 (zYd H (by omega)).1 (cellP0 H (by omega)).2 (cellP1 H (by omega)).2 (zYd H (by omega)).2
theorem RowP.st2(R:RowP w0 blk off n)(S:SWK encP 3 w0 blk off d W)(hs:d.size=n)(i j:Nat)(hi:i<n)(hj:j<n)(y x:Pr):
 storeP Tryz.prog (.pointer (some ⟨blk,off+j*3,none⟩)) (valP x) (W.drew.setCells blk (off+i*3) (encP y)) = .ok () ((W.drew.setCells blk (off+i*3) (encP y)).setCells blk (off+j*3) (encP x)):=by
 have H:=holds_setCells_c (R.holds S.drew hs) (i*3) (encP y) (by rw[encP_k,size_flatK];omega);have c0:=H (j*3) (by rw[size_setMany,size_flatK];omega);have c1:=H (j*3+1) (by rw[size_setMany,size_flatK];omega);have c2:=H (j*3+2) (by rw[size_setMany,size_flatK];omega);exact storeP_at c0.1 (by rw[Nat.add_assoc];exact c1.1) (by rw[Nat.add_assoc];exact c2.1) c0.2 (by rw[Nat.add_assoc];exact c1.2) (by rw[Nat.add_assoc];exact c2.2)
theorem RowP.swapped(R:RowP w0 blk off n)(S:SWK encP 3 w0 blk off d W)(hs:d.size=n)(i j:Nat)(hi:i<n)(hj:j<n):
 SWK encP 3 w0 blk off (swp d i j) ((W.drew.setCells blk (off+i*3) (encP d[j]!)).setCells blk (off+j*3) (encP d[i]!)):=by
 obtain⟨⟨d0,e,K⟩,_⟩:=R;exact S.swapped K i j (by omega) (by omega)
theorem RowP.cmp(S:SWK encP 3 w0 blk off d W)(x y:Pr)(q:Nat)(os:Array Obj):
 Calls Tryz.prog 67 #[valP x,valP y] (grow (W.drewN q) os) fun e w'=>e = .returned (.int .i64 (cfP x y))∧∃q' os',w'=grow ((grow (W.drewN q) os).drewN q') os':=S.cmp (byWord_lays blk off d.size w0) rfl x y q os
end
end Mq
end
section
open Pm
namespace Mg
theorem zMm{α:Type}{l:List α}{k:Nat}{x:α}(h:l[k]?=some x):l.take (k+1)=l.take k++[x]:=by rw[List.take_add_one,h];rfl
section
variable {κ:Type} {less:κ→κ→Bool}
def ins(less:κ→κ→Bool)(m:κ×(Int×Int)):List (κ×(Int×Int))→List (κ×(Int×Int))
 |[]=>[m]
 |x::r=>if less m.1 x.1 then m::x::r else x::ins less m r
theorem zWy{m x:κ×(Int×Int)}:∀{l:List (κ×(Int×Int))},x∈ins less m l→x=m∨x∈l
 |[],h=>by simpa[ins]using h
 |y::r,h=>by
  unfold ins at h
  split at h
  · simpa using h
  · rcases List.mem_cons.1 h with e|e
    · exact .inr (by simp[e])
    · rcases zWy e with e|e
      · exact .inl e
      · exact .inr (by simp[e])
theorem ins_len(m:κ×(Int×Int)):∀l:List (κ×(Int×Int)),(ins less m l).length=l.length+1
 |[]=>rfl
 |y::r=>by
  unfold ins
  split
  · rfl
  · rw[List.length_cons,ins_len m r,List.length_cons]
theorem zWv(o:STO less)(m:κ×(Int×Int)):∀{l:List (κ×(Int×Int))},Mq.Up less l→Mq.Up less (ins less m l)
 |[],_=>List.pairwise_singleton _ _
 |y::r,h=>by
  obtain⟨h1,h2⟩:=List.pairwise_cons.1 h;unfold ins
  split
  · rename_i hm
    refine List.pairwise_cons.2 ⟨fun z hz=>?_,h⟩;rcases List.mem_cons.1 hz with e|e
    · rw[e];exact o.asymm hm
    · exact o.ntr (o.asymm hm) (h1 z e)
  · rename_i hm
    refine List.pairwise_cons.2 ⟨fun z hz=>?_,zWv o m h2⟩;rcases zWy hz with e|e
    · rw[e];exact Bool.eq_false_iff.2 hm
    · exact h1 z e
def zEf(less:κ→κ→Bool)(l:List (κ×(Int×Int))):List (κ×(Int×Int)):=l.foldl (fun a m=>ins less m a) []
theorem zRl:∀(l a:List (κ×(Int×Int))),(l.foldl (fun a m=>ins less m a) a).length=a.length+l.length
 |[],a=>by simp
 |x::r,a=>by rw[List.foldl_cons,zRl r,ins_len,List.length_cons];omega
theorem zTc(l:List (κ×(Int×Int))):(zEf less l).length=l.length:=by
 have:=zRl (less:=less) l [];rw[List.length_nil,Nat.zero_add]at this;exact this
theorem zW0(o:STO less)(l:List (κ×(Int×Int))):Mq.Up less (zEf less l):=by
 suffices H:∀(l a:List (κ×(Int×Int))),Mq.Up less a→Mq.Up less (l.foldl (fun a m=>ins less m a) a)from H l [] List.Pairwise.nil
 intro l
 induction l with
 |nil=>exact fun a h=>h
 |cons x r ih=>exact fun a h=>ih _ (zWv o x h)
def insP(less:κ→κ→Bool)(m:κ×(Int×Int))(done:Bool)(r:List (κ×(Int×Int))):List (κ×(Int×Int)):=if done then r else ins less m r
end
section
variable {κ:Type} [DecidableEq κ] {less:κ→κ→Bool}
theorem zMs(o:STO less):∀{a b:List (κ×(Int×Int))},Mq.Up less a→Mq.Up less b→(∀k,Mq.of k a=Mq.of k b)→a=b
 |[],b,_,_,h=>by
  have:=Mq.of_len b [] h;exact(List.eq_nil_of_length_eq_zero (by simpa using this.symm)).symm
 |x::r,[],_,_,h=>by
  have:=Mq.of_len [] (x::r) h;simp at this
 |x::r,y::s,ha,hb,h=>by
  have hx:x∈y::s:=Mq.mem_of_same (a:=y::s) (b:=x::r) h (by simp);have hy:y∈x::r:=Mq.mem_of_same (a:=x::r) (b:=y::s) (fun k=>(h k).symm) (by simp);have h1:less y.1 x.1=false:=by
   rcases List.mem_cons.1 hy with e|e
   · rw[e];exact o.irr _
   · exact(List.pairwise_cons.1 ha).1 y e
  have h2:less x.1 y.1=false:=by
   rcases List.mem_cons.1 hx with e|e
   · rw[e];exact o.irr _
   · exact(List.pairwise_cons.1 hb).1 x e
  have he:x.1=y.1:=o.tot _ _ h2 h1;have h3:=h x.1;rw[Mq.of_cons_same,he,Mq.of_cons_same,List.cons.injEq]at h3;obtain⟨rfl,_⟩:=h3;rw[zMs o (List.pairwise_cons.1 ha).2 (List.pairwise_cons.1 hb).2 fun k=>by
   have:=h k;by_cases e:x.1=k
   · subst e
     rw[Mq.of_cons_same,Mq.of_cons_same,List.cons.injEq]at this;exact this.2
   · rwa [Mq.of_cons_ne e,Mq.of_cons_ne e]at this]
theorem zSm(o:STO less){l a b:List (κ×(Int×Int))}(h1:Mq.Stably less l a)(h2:Mq.Stably less l b):a=b:=
 zMs o h1.1 h2.1 fun k=>(h1.2 k).trans (h2.2 k).symm
theorem zWx(o:STO less)(m:κ×(Int×Int))(k:κ):∀{l:List (κ×(Int×Int))},Mq.Up less l→Mq.of k (ins less m l)=Mq.of k (l++[m])
 |[],_=>rfl
 |y::r,h=>by
  obtain⟨h1,h2⟩:=List.pairwise_cons.1 h;unfold ins
  split
  · rename_i hm
    rw[show m::y::r=[m]++(y::r)from rfl];refine Mq.of_comm o (fun u hu v hv=>?_) k;rw[List.mem_singleton.1 hu];rcases List.mem_cons.1 hv with e|e
    · rw[e];exact hm
    · cases hc:less m.1 v.1 with
      |true=>rfl
      |false=>
       have:=o.ntr (h1 v e) hc;rw[this]at hm;cases hm
  · by_cases e:y.1=k
    · subst e
      rw[Mq.of_cons_same,List.cons_append,Mq.of_cons_same,zWx o m _ h2]
    · rw[Mq.of_cons_ne e,List.cons_append,Mq.of_cons_ne e,zWx o m _ h2]
theorem zW1(o:STO less)(l:List (κ×(Int×Int))):Mq.Stably less l (zEf less l):=by
 refine⟨zW0 o l,fun k=>?_⟩
 suffices H:∀(l a:List (κ×(Int×Int))),Mq.Up less a→Mq.of k (l.foldl (fun a m=>ins less m a) a)=Mq.of k (a++l)by simpa[zEf]using H l [] List.Pairwise.nil
 intro l
 induction l with
 |nil=>intro a _;simp
 |cons x r ih=>
  intro a h;rw[List.foldl_cons,ih _ (zWv o x h),Mq.of_append,zWx o x k h,←Mq.of_append,List.append_assoc];rfl
end
end Mg
end
section
open Go.RowKit Go.Shelf Go.Lib Go.Sort Pm
namespace Mg
abbrev M:=Mq.Pr
def MOwn(B:Nat)(w:World)(v:Value)(l:List M):Prop:=GOwn 52 3 B w v (l.map cellsM)
theorem zI8(ad:Option Addr)(n cap:Nat)(hn:n≤1)(w:World):Calls Tryz.prog 136 #[.slice ad n cap,.int .i64 0,.int .i64 n,.func (.func 67) #[] #[]] w fun e w'=>e = .returned (.tuple #[])∧w'=w:=by
 have hz:¬(1:Int)<(n:Int):=by omega
 go_enter Tryz.func136,Tryz.ntmps136;go_wp2;refine wp_loop_rounds 1 ?_;rw[rounds_succ];go_wp2
 go_end0
 exact⟨rfl,rfl⟩
theorem zOs(ad:Option Addr)(n cap:Nat)(hn:n≤1)(w:World):Calls Tryz.prog 102 #[.slice ad n cap,.int .i64 n,.func (.func 67) #[] #[]] w fun e w'=>e = .returned (.tuple #[])∧w'=w:=by
 have hz:¬(20:Int)≤(n:Int):=by omega
 have hz2:¬(20:Int)<(n:Int):=by omega
 go_enter Tryz.func102,Tryz.ntmps102;go_wp2;refine wp_loop_rounds 1 ?_;rw[rounds_succ];go_wp2_with (go_at_call 136;refine(zI8 _ _ _ hn _).mono ?_;rintro e w2 ⟨rfl,rfl⟩);refine wp_loop_rounds 1 ?_;rw[rounds_succ];go_wp2
 go_end0
 exact⟨rfl,rfl⟩
theorem zUv{B:Nat}{w:World}{v:Value}{l:List M}(h:MOwn B w v l)(h1:l.length≤1):
 Calls Tryz.prog 66 #[v,.func (.func 67) #[] #[]] w fun e w'=>e = .returned (.tuple #[])∧MOwn B w' v (zEf zAa l)∧Below B w w':=by
 have hi:zEf zAa l=l:=by
  match l,h1 with
  |[],_=>rfl
  |[_],_=>rfl
 rw[hi];have HO:Hid (MOwn B w v l):=h;obtain⟨ad,cap,rfl,_⟩:=GOwn.shape h;rw[List.length_map]at HO ⊢;clear h hi;go_enter Tryz.func66,Tryz.ntmps66;go_wp2_with (go_at_call 102;refine(zOs _ _ _ h1 _).mono ?_;rintro e w2 ⟨rfl,rfl⟩)
 go_end0
 exact⟨rfl,HO.out,Below.refl _ _⟩
end Mg
end
section
open Go.RowKit Go.Shelf Go.Lib Go.Sort Pm
namespace Mg
def cfW(a b:ByteArray):Int:=if zAa a b then -1 else if zAa b a then 1 else 0
theorem cfW_lt{a b:ByteArray}(h:zAa a b=true):cfW a b = -1:=by unfold cfW;rw[if_pos h]
theorem cfW_ge{a b:ByteArray}(h:zAa a b=false):¬cfW a b<0:=by unfold cfW;rw[h];cases zAa b a<;>decide
theorem cfW_eq(a b:ByteArray):cfW a b=0↔a=b:=by
 unfold cfW;constructor
 · intro h
   cases e1:zAa a b
   · cases e2:zAa b a
     · exact lessB_sto.tot _ _ e1 e2
     · rw[e1,e2]at h;simp at h
   · rw[e1]at h;simp at h
 · rintro rfl
   rw[lessB_sto.irr];rfl
theorem zP0(w:World)(o:Obj):Below w.heap.size w (w.alloc o):=(Below.refl _ w).alloc (Nat.le_refl _) _
theorem zR1(x:Pr)(s:ByteArray)(W:World):Calls Tryz.prog 100 #[.agg #[.string x.1,.int .i64 x.2],.string s] W fun e w'=>e = .returned (.int .i64 (cfW x.1 s))∧Below W.heap.size W w':=by
 have h1:∀W',Calls Tryz.prog 68 #[.string x.1,.string s] W' fun e w'=>e = .returned (.int .i64 (cfW x.1 s))∧w'=W':=fun W'=>Mq.inOrder_any x.1 s W'
 generalize cfW x.1 s=c at h1 ⊢;go_enter Tryz.func100,Tryz.ntmps100;go_wp2_with (go_at_call 68;refine(h1 _).mono ?_;rintro e w' ⟨rfl,rfl⟩);go_ret;exact⟨rfl,zP0 _ _⟩
def hasW(C:List Pr)(s:ByteArray):Bool:=decide (∃p∈C,p.1=s)
theorem has_at{C:List Pr}{s:ByteArray}(hC:SUp zAa C)(i:Nat)(x:Pr)(hx:C[i]?=some x)(h1:∀k y,k<i→C[k]?=some y→zAa y.1 s=true)(h2:zAa x.1 s=false):hasW C s=(cfW x.1 s==0):=by
 unfold hasW;rw[Bool.eq_iff_iff,decide_eq_true_iff,beq_iff_eq,cfW_eq];constructor
 · rintro⟨p,hp,rfl⟩
   obtain⟨k,hk⟩:=List.getElem?_of_mem hp;rcases Nat.lt_trichotomy k i with h|h|h
   · have:=h1 k p h hk
     rw[lessB_sto.irr]at this;cases this
   · subst h;rw[hk]at hx;exact(congrArg Prod.fst (Option.some.inj hx)).symm
   · obtain⟨hil,hie⟩:=List.getElem?_eq_some_iff.1 hx
     obtain⟨hkl,hke⟩:=List.getElem?_eq_some_iff.1 hk;have:=List.pairwise_iff_getElem.1 hC i k hil hkl h;rw[hie,hke,h2]at this;cases this
 · intro e
   exact⟨x,List.mem_of_getElem? hx,e⟩
theorem has_none{C:List Pr}{s:ByteArray}(i:Nat)(hi:C.length≤i)(h1:∀k y,k<i→C[k]?=some y→zAa y.1 s=true):hasW C s=false:=by
 unfold hasW;rw[decide_eq_false_iff_not];rintro⟨p,hp,rfl⟩;obtain⟨k,hk⟩:=List.getElem?_of_mem hp;have:=h1 k p (by have:=(List.getElem?_eq_some_iff.1 hk).1;omega) hk;rw[lessB_sto.irr]at this;cases this
theorem low_next{C:List Pr}{s:ByteArray}(hC:SUp zAa C){h:Nat}{y:Pr}(hy:C[h]?=some y)(hv:zAa y.1 s=true):∀k z,k<h+1→C[k]?=some z→zAa z.1 s=true:=fun k z hk hz=>by
 by_cases e:k=h
 · subst e;rw[hz]at hy;rw[Option.some.inj hy];exact hv
 · obtain⟨h1,e1⟩:=List.getElem?_eq_some_iff.1 hy
   obtain⟨h2,e2⟩:=List.getElem?_eq_some_iff.1 hz;have:=List.pairwise_iff_getElem.1 hC k h h2 h1 (by omega);rw[e1,e2]at this;exact lessB_sto.tr _ _ _ this hv
attribute [local go_sem ↓] exec_load_P exec_store_P
theorem zSr(w:World)(v:Value)(C:List Pr)(s:ByteArray)(hr:PRow w v C)(hC:SUp zAa C)(hl:C.length<549755813888):
 Calls Tryz.prog 99 #[v,.string s,.func (.func 100) #[] #[]] w fun e w'=>∃i,e = .returned (.tuple #[.int .i64 i,.bool (hasW C s)])∧Below w.heap.size w w':=by
 obtain⟨ad,cap,rfl,_⟩:=id hr;obtain⟨n,hn⟩:∃n,C.length=n:=⟨_,rfl⟩;have HN:Hid (C.length=n):=hn;rw[hn]at hr hl ⊢;have HROW:Hid (PRow w (.slice ad n cap) C):=hr;have HC:Hid (SUp zAa C):=hC;clear hr hC hn;go_enter Tryz.func99,Tryz.ntmps99;go_wp2
 go_loopg [9,10] n (fun g s9 s10 wr=>∃(i j:Nat),s9 = .int .i64 i∧s10 = .int .i64 j∧i≤j∧j≤n∧j-i≤g∧Hid (Below w.heap.size w wr)∧Hid ((∀k y,k<i→C[k]?=some y→zAa y.1 s=true)∧(∀y,C[j]?=some y→zAa y.1 s=false)))
 case atStart=>exact⟨0,n,rfl,rfl,Nat.zero_le _,Nat.le_refl _,by omega,Below.refl _ _,fun k y hk=>by omega,fun y hy=>by have:=(List.getElem?_eq_some_iff.1 hy).1;have:=HN.out;omega⟩
 case round=>
  obtain⟨i,j,rfl,rfl,hij,hjn,hg,HB,H⟩:=hrel;by_cases hlt:i<j
  · have hltz:(i:Int)<(j:Int):=by omega
    obtain⟨h,hh⟩:∃h,h=(i+j)/2:=⟨_,rfl⟩;(have ehz:((i:Int)+(j:Int))/2=(h:Int):=by omega);(have hih:i≤h:=by omega);(have hhj:h<j:=by omega);clear hh;(have rh:IntKind.i64.wrap (h:Int)=(h:Int):=by rw[IntKind.wrap_i64];omega);(have ph:(0:Int)≤(h:Int):=by omega);(have bh:(h:Int)<(n:Int):=by omega);(have eh:(h:Int).toNat=h:=by omega);obtain⟨y,hy⟩:∃y,C[h]?=some y:=⟨C[h]'(by have:=HN.out;omega),List.getElem?_eq_getElem _⟩;have HY:Hid (C[h]?=some y):=hy;obtain⟨g0,off,hgo,hg0,hc⟩:=(HROW.out.below HB.out).at (by omega);subst hgo;have hld:=(hc h y hy).load;have HCM:Hid (Calls Tryz.prog 100 #[valP y,.string s] wr fun e w'=>e = .returned (.int .i64 (cfW y.1 s))∧Below wr.heap.size wr w'):=zR1 y s wr;clear hc hg0 hy;cases hv:zAa y.1 s
    · have hv1:¬cfW y.1 s<0:=cfW_ge hv
      have HV:Hid (zAa y.1 s=false):=hv;clear hv;go_wp2_with (first|(go_at_fn 100;refine HCM.out.mono ?_;rintro e w2 ⟨rfl,hb2⟩;have HB2:Hid (Below w.heap.size w w2):=HB.out.trans (hb2.mono HB.out.size);clear hb2)|(go_at_call 100;refine HCM.out.mono ?_;rintro e w2 ⟨rfl,hb2⟩;have HB2:Hid (Below w.heap.size w w2):=HB.out.trans (hb2.mono HB.out.size);clear hb2));go_roundg (h-i);(case measure=>omega);case rel=>exact⟨i,h,rfl,by first|rfl|go_num,hih,by omega,Nat.le_refl _,HB2,H.out.1,fun z hz=>by have e:=HY.out;rw[hz]at e;rw[Option.some.inj e];exact HV.out⟩
    · have hv1:cfW y.1 s = -1:=cfW_lt hv
      have HV:Hid (zAa y.1 s=true):=hv;rw[hv1]at HCM;clear hv hv1;go_wp2_with (first|(go_at_fn 100;refine HCM.out.mono ?_;rintro e w2 ⟨rfl,hb2⟩;have HB2:Hid (Below w.heap.size w w2):=HB.out.trans (hb2.mono HB.out.size);clear hb2)|(go_at_call 100;refine HCM.out.mono ?_;rintro e w2 ⟨rfl,hb2⟩;have HB2:Hid (Below w.heap.size w w2):=HB.out.trans (hb2.mono HB.out.size);clear hb2));go_roundg (j-(h+1));(case measure=>omega);case rel=>exact⟨h+1,j,by go_num,rfl,by omega,hjn,Nat.le_refl _,HB2,low_next HC.out HY.out HV.out,H.out.2⟩
  · have hltz:¬(i:Int)<(j:Int):=by omega
    (obtain rfl:i=j:=by omega);by_cases hin:i<n
    · have hinz:(i:Int)<(n:Int):=by omega
      obtain⟨y,hy⟩:∃y,C[i]?=some y:=⟨C[i]'(by have:=HN.out;omega),List.getElem?_eq_getElem _⟩;obtain⟨g0,off,hgo,hg0,hc⟩:=(HROW.out.below HB.out).at (by omega);subst hgo;have HHA:Hid (hasW C s=(cfW y.1 s==0)):=has_at HC.out i y hy H.out.1 (H.out.2 y hy);have hld:=(hc i y hy).load;have HCM:Hid (Calls Tryz.prog 100 #[valP y,.string s] wr fun e w'=>e = .returned (.int .i64 (cfW y.1 s))∧Below wr.heap.size wr w'):=zR1 y s wr;clear hc hg0 hy;generalize cfW y.1 s=c at HCM HHA;go_wp2_with (first|(go_at_fn 100;refine HCM.out.mono ?_;rintro e w2 ⟨rfl,hb2⟩;have HB2:Hid (Below w.heap.size w w2):=HB.out.trans (hb2.mono HB.out.size);clear hb2)|(go_at_call 100;refine HCM.out.mono ?_;rintro e w2 ⟨rfl,hb2⟩;have HB2:Hid (Below w.heap.size w w2):=HB.out.trans (hb2.mono HB.out.size);clear hb2));go_ret2;exact⟨_,by rw[HHA.out];rfl,HB2.out⟩
    · have hinz:¬(i:Int)<(n:Int):=by omega
      have HHA:Hid (hasW C s=false):=has_none i (by have:=HN.out;omega) H.out.1;go_wp2;go_ret2;first|exact⟨_,by rw[HHA.out];rfl,HB.out⟩|exact⟨⟨_,by rw[HHA.out];rfl⟩,HB.out⟩
theorem zPs(w:World)(v:Value)(C:List Pr)(s:ByteArray)(hr:PRow w v C)(hC:SUp zAa C)(hl:C.length<549755813888):
 Calls Tryz.prog 64 #[v,.string s] w fun e w'=>e = .returned (.bool (hasW C s))∧Below w.heap.size w w':=by
 have h1:=zSr w v C s hr hC hl;clear hr hC hl;generalize hasW C s=b at h1 ⊢;go_enter Tryz.func64,Tryz.ntmps64;go_wp2_with (go_at_call 99;refine h1.mono ?_;rintro e w2 ⟨i,rfl,hb2⟩);go_ret;exact⟨rfl,hb2⟩
end Mg
end
section
open Go.RowKit Go.Shelf Go.Lib Go.Sort Pm Nums Ed
namespace Mg
def mtch(word:List UInt8)(edits:Int)(p:Pr):Option Mq.Pr:=
 if p.2≤0∨zAq p.1.data.toList=false then none
 else match dsE p.1.data.toList word with
  |some d=>if (d:Int)≤edits then some (p.1,p.2,(d:Int))else none
  |none=>none
theorem zDi{tmps:Array Value}{w:World}{rb:Nat}{a b c:Value}(h2:tmps.getD 6 undef = .pointer (some ⟨rb,0,none⟩))(c0:w.cell? ⟨rb,0,none⟩=some a)(c1:w.cell? ⟨rb,1,none⟩=some b)(c2:w.cell? ⟨rb,2,none⟩=some c):(results Tryz.f65 tmps).run Tryz.prog w = .ok (.tuple #[.agg #[a,b,c],tmps.getD 7 undef]) w:=by
 have h2':tmps[6]?.getD undef = .pointer (some ⟨rb,0,none⟩):=by simpa using h2
 simp[results,Tryz.results65,go_sem,h2',c0,c1,c2]
theorem zYl(w:World)(o:Obj):(w.alloc o).heap[w.heap.size]?=some o:=by show(w.heap.push o)[w.heap.size]?=_;simp
theorem zGo(w1:World)(mb:Nat)(a b c:Value)(hb:w1.heap[mb]?=some (.cells #[a,b,c] 52))(x:Mq.Pr)(B:Nat)(hB:B≤mb):
 ∃W,Mq.storeP Tryz.prog (.pointer (some ⟨mb,0,none⟩)) (Mq.valP x) w1 = .ok () W∧Below B w1 W∧W.heap[mb]?=some (.cells (Mq.encP x).toArray 52):=by
 refine⟨w1.setCells mb 0 (Mq.encP x),Mq.storeP_at (u:=a) (v:=b) (z:=c) (by simp[World.cell?,hb]) (by simp[World.cell?,hb]) (by simp[World.cell?,hb]) (by simp[World.frozen?,hb]) (by simp[World.frozen?,hb]) (by simp[World.frozen?,hb]),?_,?_⟩
 · show Below B w1 (((w1.setCell ⟨mb,0,none⟩ _).setCell ⟨mb,1,none⟩ _).setCell ⟨mb,2,none⟩ _)
   exact(((Below.refl B w1).setCell (p:=⟨mb,0,none⟩) hB _).setCell (p:=⟨mb,1,none⟩) hB _).setCell (p:=⟨mb,2,none⟩) hB _
 · simp[Mq.encP,World.setCells,World.setCell,Array.getElem?_modify,hb]
theorem zPu{W:World}{mb:Nat}{x:Mq.Pr}(h:W.heap[mb]?=some (.cells (Mq.encP x).toArray 52)):W.cell? ⟨mb,0,none⟩=some (.string x.1)∧W.cell? ⟨mb,1,none⟩=some (.int .i64 x.2.1)∧W.cell? ⟨mb,2,none⟩=some (.int .i64 x.2.2):=by
 refine⟨by simp[World.cell?,h,Mq.encP],by simp[World.cell?,h,Mq.encP],by simp[World.cell?,h,Mq.encP]⟩
def zSb(w w':World)(o:Option Mq.Pr)(e:Ending):Prop:=Below w.heap.size w w'∧((o=none∧∃m,e = .returned (.tuple #[Mq.valP m,.bool false]))∨∃m,o=some m∧e = .returned (.tuple #[Mq.valP m,.bool true]))
theorem zHg{w Wz:World}{rb:Nat}{o:Option Mq.Pr}(hz:Wz.heap[rb]?=some (.cells #[.string ⟨#[]⟩,.int .i64 0,.int .i64 0] 52))(hb:Below w.heap.size w Wz)(hr:w.heap.size≤rb)(ho:o=none):
 ∃W3,Mq.storeP Tryz.prog (.pointer (some ⟨rb,0,none⟩)) (.agg #[.string ⟨#[]⟩,.int .i64 0,.int .i64 0]) Wz = .ok () W3∧W3.cell? ⟨rb,0,none⟩=some (.string ⟨#[]⟩)∧W3.cell? ⟨rb,1,none⟩=some (.int .i64 0)∧W3.cell? ⟨rb,2,none⟩=some (.int .i64 0)∧Hid (zSb w W3 o (.returned (.tuple #[Mq.valP (⟨#[]⟩,0,0),.bool false]))):=by
 obtain⟨W3,hst,hb3,hc3⟩:=zGo Wz rb _ _ _ hz (⟨#[]⟩,0,0) w.heap.size hr;obtain⟨k0,k1,k2⟩:=zPu hc3;exact⟨W3,hst,k0,k1,k2,hb.trans hb3,.inl ⟨ho,_,rfl⟩⟩
theorem zT7{w Wz:World}{rb:Nat}{o:Option Mq.Pr}(x:Mq.Pr)(hz:Wz.heap[rb]?=some (.cells #[.string ⟨#[]⟩,.int .i64 0,.int .i64 0] 52))(hb:Below w.heap.size w Wz)(hr:w.heap.size≤rb)(ho:o=some x):
 ∃W3,Mq.storeP Tryz.prog (.pointer (some ⟨rb,0,none⟩)) (.agg #[.string x.1,.int .i64 x.2.1,.int .i64 x.2.2]) Wz = .ok () W3∧W3.cell? ⟨rb,0,none⟩=some (.string x.1)∧W3.cell? ⟨rb,1,none⟩=some (.int .i64 x.2.1)∧W3.cell? ⟨rb,2,none⟩=some (.int .i64 x.2.2)∧Hid (zSb w W3 o (.returned (.tuple #[Mq.valP x,.bool true]))):=by
 obtain⟨W3,hst,hb3,hc3⟩:=zGo Wz rb _ _ _ hz x w.heap.size hr;obtain⟨k0,k1,k2⟩:=zPu hc3;exact⟨W3,hst,k0,k1,k2,hb.trans hb3,.inr ⟨x,ho,rfl⟩⟩
attribute [local go_sem ↓] Mq.exec_store_P
theorem zV3(p:Pr)(ws:ByteArray)(word:List UInt8)(hw:ws.data.toList=word)(edits:Int)(w:World)(ht:Tabs w)(hp:p.1.size≤9223372036854775807)(hs:ws.size≤9223372036854775807):
 Calls Tryz.prog 65 #[.agg #[.string p.1,.int .i64 p.2],.string ws,.int .i64 edits] w fun e w'=>zSb w w' (mtch word edits p) e:=by
 obtain⟨V2,hV2⟩:∃V2,(w.alloc (.cells #[.string p.1,.int .i64 p.2] 75)).alloc (.cells #[.string ⟨#[]⟩,.int .i64 0,.int .i64 0] 52)=V2:=⟨_,rfl⟩;obtain⟨pb,hpb⟩:∃pb,w.heap.size=pb:=⟨_,rfl⟩;obtain⟨rb,hrb⟩:∃rb,pb+1=rb:=⟨_,rfl⟩;have HB2:Hid (Below w.heap.size w V2):=by show Below _ _ _;rw[←hV2];exact((Below.refl _ w).alloc (Nat.le_refl _) _).alloc (by simp) _
 have HR2:Hid (V2.heap[rb]?=some (.cells #[.string ⟨#[]⟩,.int .i64 0,.int .i64 0] 52)):=by
  have:=zYl (w.alloc (.cells #[.string p.1,.int .i64 p.2] 75)) (.cells #[.string ⟨#[]⟩,.int .i64 0,.int .i64 0] 52);rw[hV2]at this;show V2.heap[rb]?=_;rw[←hrb,←hpb];simpa using this
 have hP2:V2.heap[pb]?=some (.cells #[.string p.1,.int .i64 p.2] 75):=by
  rw[←hV2,←hpb];show((w.heap.push _).push _)[w.heap.size]?=_;simp only[Array.getElem?_push,Array.size_push];rw[if_neg (by omega),if_pos trivial]
 have HRB:Hid (w.heap.size≤rb):=by show w.heap.size≤rb;omega
 have p0:V2.cell? ⟨pb,0,none⟩=some (.string p.1):=by simp[World.cell?,hP2]
 have p1:V2.cell? ⟨pb,1,none⟩=some (.int .i64 p.2):=by simp[World.cell?,hP2]
 have HP2:Hid (V2.heap[pb]?=some (.cells #[.string p.1,.int .i64 p.2] 75)):=hP2;have HT2:Hid (Tabs V2):=ht.below HB2.out;clear hP2;by_cases h0:p.2≤0
 · have HNO:Hid (mtch word edits p=none):=by show mtch word edits p=none;unfold mtch;rw[if_pos (.inl h0)]
   obtain⟨W3,hst2,k0,k1,k2,HFIN⟩:=zHg HR2.out HB2.out HRB.out HNO.out;go_enter Tryz.func65,Tryz.ntmps65;go_wp2;refine bodyPost_ret (zDi rfl k0 k1 k2) rfl ?_;exact HFIN.out
 · have HWD:Hid (Calls Tryz.prog 28 #[.string p.1] V2 fun e w'=>e = .returned (.bool (zAq p.1.data.toList))∧∃n,w'=V2.drewN n):=zCa p.1 V2 HT2.out hp
   (have HDR:Hid (∀q,(V2.drewN q).heap[rb]?=some (.cells #[.string ⟨#[]⟩,.int .i64 0,.int .i64 0] 52)∧Below w.heap.size w (V2.drewN q)):=fun q=>⟨HR2.out,belowN HB2.out q⟩);cases hwb:zAq p.1.data.toList
   · rw[hwb]at HWD
     (have HNO:Hid (mtch word edits p=none):=by show mtch word edits p=none;unfold mtch;rw[if_pos (.inr hwb)]);clear hwb;go_enter Tryz.func65,Tryz.ntmps65;go_wp2_with (go_at_call 28;refine HWD.out.mono ?_;rintro e w3 ⟨rfl,q,hq⟩;subst hq;obtain⟨W3,hst2,k0,k1,k2,HFIN⟩:=zHg (HDR.out q).1 (HDR.out q).2 HRB.out HNO.out);refine bodyPost_ret (zDi rfl k0 k1 k2) rfl ?_;exact HFIN.out
   · rw[hwb]at HWD
     have HMT:Hid (mtch word edits p=match dsE p.1.data.toList word with|some d=>if (d:Int)≤edits then some (p.1,p.2,(d:Int))else none|none=>none):=by
      show mtch word edits p=_;unfold mtch;rw[if_neg (by rintro(h|h);exact h0 h;rw[hwb]at h;cases h)]
     have HDI:Hid (∀q,Calls Tryz.prog 101 #[.string p.1,.string ws] (V2.drewN q) fun e w'=>e = .returned (dsV (dsE p.1.data.toList word))∧Below (V2.drewN q).heap.size (V2.drewN q) w'):=fun q=>by
      have:=zOh p.1 ws (V2.drewN q) (ht.below ((HDR.out q).2)) hp hs;rw[hw]at this;exact this
     have HAF:Hid (∀q w4,Below (V2.drewN q).heap.size (V2.drewN q) w4→w4.heap[rb]?=some (.cells #[.string ⟨#[]⟩,.int .i64 0,.int .i64 0] 52)∧Below w.heap.size w w4∧w4.cell? ⟨pb,0,none⟩=some (.string p.1)∧w4.cell? ⟨pb,1,none⟩=some (.int .i64 p.2)):=fun q w4 hb4=>by
      have h1:=(hb4.block rb (Array.getElem?_eq_some_iff.1 (HDR.out q).1).1).trans (HDR.out q).1;have h2:=hb4.block pb (Array.getElem?_eq_some_iff.1 HP2.out).1;have h3:w4.heap[pb]?=some (.cells #[.string p.1,.int .i64 p.2] 75):=h2.trans HP2.out;exact⟨h1,(HDR.out q).2.trans (hb4.mono (HDR.out q).2.size),by simp[World.cell?,h3],by simp[World.cell?,h3]⟩
     clear hwb;cases hds:dsE p.1.data.toList word with
     |none=>
      rw[hds]at HDI HMT;clear hds;go_enter Tryz.func65,Tryz.ntmps65
      go_wp2_with (first
       |(go_at_call 28;refine HWD.out.mono ?_;rintro e w3 ⟨rfl,q,hq⟩;subst hq)
       |(go_at_call 101;refine(HDI.out q).mono ?_;rintro e w4 ⟨rfl,hb4⟩;obtain⟨hz4,hbw4,_⟩:=HAF.out q w4 hb4;obtain⟨W3,hst2,k0,k1,k2,HFIN⟩:=zHg hz4 hbw4 HRB.out HMT.out;clear hz4 hbw4 hb4;unfold dsV))
      refine bodyPost_ret (zDi rfl k0 k1 k2) rfl ?_;exact HFIN.out
     |some d=>
      rw[hds]at HDI HMT;clear hds;by_cases hde:(d:Int)≤edits
      · have HMS:Hid (mtch word edits p=some (p.1,p.2,(d:Int))):=by have:=HMT.out;simp only[hde,if_true]at this;exact this
        (have hde2:¬(d:Int)>edits:=by omega);go_enter Tryz.func65,Tryz.ntmps65
        go_wp2_with (first
         |(go_at_call 28;refine HWD.out.mono ?_;rintro e w3 ⟨rfl,q,hq⟩;subst hq)
         |(go_at_call 101;refine(HDI.out q).mono ?_;rintro e w4 ⟨rfl,hb4⟩;obtain⟨hz4,hbw4,q0,q1⟩:=HAF.out q w4 hb4;obtain⟨W3,hst2,k0,k1,k2,HFIN⟩:=zT7 _ hz4 hbw4 HRB.out HMS.out;clear hz4 hbw4 hb4;unfold dsV))
        refine bodyPost_ret (zDi rfl k0 k1 k2) rfl ?_;exact HFIN.out
      · have HMS:Hid (mtch word edits p=none):=by have:=HMT.out;simp only[hde,if_false]at this;exact this
        (have hde2:edits<(d:Int):=by omega);go_enter Tryz.func65,Tryz.ntmps65
        go_wp2_with (first
         |(go_at_call 28;refine HWD.out.mono ?_;rintro e w3 ⟨rfl,q,hq⟩;subst hq)
         |(go_at_call 101;refine(HDI.out q).mono ?_;rintro e w4 ⟨rfl,hb4⟩;obtain⟨hz4,hbw4,_⟩:=HAF.out q w4 hb4;obtain⟨W3,hst2,k0,k1,k2,HFIN⟩:=zHg hz4 hbw4 HRB.out HMS.out;clear hz4 hbw4 hb4;unfold dsV))
        refine bodyPost_ret (zDi rfl k0 k1 k2) rfl ?_;exact HFIN.out
end Mg
end
