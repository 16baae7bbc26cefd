import Derived.Test.YtobjpljdgieklaaGreatDoorJ11
import Derived.Shelf.Spec.SlicesGrow
import Derived.Deep.QuietTactic
import Derived.BigQuiet
import Derived.Deep.Cut
import Derived.Test.YtobjpljdgieklaaGreatDoorJ4
import Derived.Test.YtobjpljdgieklaaGreatDoorJ12
set_option maxRecDepth 100000
namespace Go.Proofs.YtobjpljdgieklaaGreatDoor
section
open Go.RowKit Go.Shelf Go.Lib Go.Sort Pm
shelf_lay_g Lays8.n4 Nm8 4 at Tryz 164 as growPr
theorem zM2(n:Nat)(hn:n<2199023255552)(w:World):Calls Tryz.prog 164 #[.slice none 0 0,.int .i64 n] w fun e w'=>∃v,e = .returned v∧POwn w.heap.size w' v []∧Below w.heap.size w w':=by
 obtain⟨i0,hi,hz0,hz1,hz2⟩:=info_parts zV1;rcases Nat.eq_zero_or_pos n with rfl|h0
 · refine(Any8.slices_Grow_room growPr none 0 0 0 w (Nat.le_refl _) (by omega) (by omega) (by omega)).mono ?_
   rintro e w' ⟨rfl,rfl⟩;exact⟨_,rfl,POwn.nil _ _,Below.refl _ _⟩
 · refine(Any8.slices_Grow_grow growPr i0 _ hi hz0 (by rw[hz1];decide) none 0 0 n [] w (Nat.le_refl _) (by omega) (by rw[hz2];omega) (by omega) (by simp) (fun _=>rfl) (fun a h=>by cases h)).mono ?_
   rintro e w' ⟨rfl,rfl⟩;refine⟨_,rfl,⟨rfl,.inr ⟨_,_,_,rfl,Nat.le_refl _,zAb _ _,Nat.zero_le _,?_,?_,rfl⟩⟩,((Below.refl _ w).drew).alloc (Nat.le_refl _) _⟩
   · exact grownCap_le_maxLen w (0+n) 0 _ (by unfold maxLen;omega)
   · have hge:n≤grownCap w n 0 (growPr_ren.t 25):=grownCap_ge w n 0 _
     simp[Builtin.zeroCells,Value.cells];omega
theorem PRow.form{w:World}{v:Value}{l:List Pr}(h:PRow w v l):∃ad cap,v = .slice ad l.length cap:=by
 obtain⟨ad,cap,rfl,_⟩:=h;exact⟨ad,cap,rfl⟩
set_option maxHeartbeats 4000000 in
theorem zPp(w:World)(vb c:Nat)(s1:Value)(xs:List Pr)(h1:PRow w s1 xs)(hx:xs.length<549755813888)(hvb:vb<w.heap.size)(c0:w.cell? ⟨vb,0,none⟩=some s1):
 Calls Tryz.prog 134 #[.slice (some ⟨vb,0,none⟩) 1 c] w fun e w'=>∃v,e = .returned v∧POwn w.heap.size w' v xs∧Below w.heap.size w w':=by
 obtain⟨a1,cp1,rfl⟩:=h1.form;have H1:Hid (PRow w (.slice a1 xs.length cp1) xs):=h1;obtain⟨n1,hn1⟩:∃n1,xs.length=n1:=⟨_,rfl⟩;have HN1:Hid (xs.length=n1):=hn1;have hp1:¬((n1:Int)<0):=by omega
 have hn1b:n1<2199023255552:=by omega
 rw[hn1]at c0 H1;clear h1 hn1;go_enter Tryz.func134,Tryz.ntmps134;go_wp2;refine wp_loop_rounds 2 ?_;rw[rounds_succ];go_wp2;rw[rounds_succ];go_wp2_with (go_at_call 164;refine(zM2 n1 hn1b _).mono ?_;rintro e w1 ⟨v,rfl,hr1,hB1⟩);have HR1:Hid (POwn w.heap.size w1 v []):=hr1;have HB1:Hid (Below w.heap.size w w1):=hB1;have d0:=(hB1.cell (p:=⟨vb,0,none⟩) hvb).trans c0;clear hr1 hB1;refine wp_loop_rounds 2 ?_;rw[rounds_succ];go_wp2_with (at_builtin;refine zF2 (by rfl) _ _ rfl w.heap.size _ _ [] xs rfl HR1.out rfl (H1.out.below HB1.out) (by have:=HN1.out;simp;omega) HB1.out.size ?_);intro v2 w2 hr2 hb2 _;have HR2:Hid (POwn w.heap.size w2 v2 xs):=hr2;have HB2:Hid (Below w.heap.size w w2):=HB1.out.trans hb2;clear hr2 hb2 d0;go_wp2_with fail;rw[rounds_succ];go_wp2_with fail;go_ret;exact⟨v2,rfl,HR2.out,HB2.out⟩
set_option maxHeartbeats 4000000 in
theorem zPo(w:World)(vb c:Nat)(s1 s2:Value)(xs ys:List Pr)(h1:PRow w s1 xs)(h2:PRow w s2 ys)(hx:xs.length<549755813888)(hy:ys.length<549755813888)(hvb:vb<w.heap.size)
 (c0:w.cell? ⟨vb,0,none⟩=some s1) (c1:w.cell? ⟨vb,1,none⟩=some s2):
 Calls Tryz.prog 134 #[.slice (some ⟨vb,0,none⟩) 2 c] w fun e w'=>∃v,e = .returned v∧POwn w.heap.size w' v (xs++ys)∧Below w.heap.size w w':=by
 obtain⟨a1,cp1,rfl⟩:=h1.form;obtain⟨a2,cp2,rfl⟩:=h2.form;have H1:Hid (PRow w (.slice a1 xs.length cp1) xs):=h1;have H2:Hid (PRow w (.slice a2 ys.length cp2) ys):=h2;obtain⟨n1,hn1⟩:∃n1,xs.length=n1:=⟨_,rfl⟩;obtain⟨n2,hn2⟩:∃n2,ys.length=n2:=⟨_,rfl⟩;obtain⟨n3,hn3⟩:∃n3,n1+n2=n3:=⟨_,rfl⟩;have HN1:Hid (xs.length=n1):=hn1;have HN2:Hid (ys.length=n2):=hn2;have hsum:(n1:Int)+(n2:Int)=(n3:Int):=by omega
 have hp1:¬((n1:Int)<0):=by omega
 have hp3:¬((n3:Int)<0):=by omega
 have hn3b:n3<2199023255552:=by omega
 rw[hn1]at c0 H1;rw[hn2]at c1 H2;clear h1 h2 hn1 hn2;go_enter Tryz.func134,Tryz.ntmps134;go_wp2;refine wp_loop_rounds 3 ?_;rw[rounds_succ];go_wp2;rw[rounds_succ];go_wp2;rw[rounds_succ];go_wp2_with (go_at_call 164;refine(zM2 n3 hn3b _).mono ?_;rintro e w1 ⟨v,rfl,hr1,hB1⟩);have HR1:Hid (POwn w.heap.size w1 v []):=hr1;have HB1:Hid (Below w.heap.size w w1):=hB1;have d0:=(hB1.cell (p:=⟨vb,0,none⟩) hvb).trans c0;clear hr1 hB1;refine wp_loop_rounds 3 ?_;rw[rounds_succ];go_wp2_with (at_builtin;refine zF2 (by rfl) _ _ rfl w.heap.size _ _ [] xs rfl HR1.out rfl (H1.out.below HB1.out) (by have:=HN1.out;simp;omega) HB1.out.size ?_);intro v2 w2 hr2 hb2 _;have HR2:Hid (POwn w.heap.size w2 v2 xs):=hr2;have HB2:Hid (Below w.heap.size w w2):=HB1.out.trans hb2;have d1:=(HB2.out.cell (p:=⟨vb,1,none⟩) hvb).trans c1;clear hr2 hb2 d0;go_wp2_with fail;rw[rounds_succ];go_wp2_with (at_builtin;refine zF2 (by rfl) _ _ rfl w.heap.size _ _ xs ys rfl HR2.out rfl (H2.out.below HB2.out) (by have:=HN1.out;have:=HN2.out;omega) HB2.out.size ?_);intro v3 w3 hr3 hb3 _;have HR3:Hid (POwn w.heap.size w3 v3 (xs++ys)):=hr3;have HB3:Hid (Below w.heap.size w w3):=HB2.out.trans hb3;clear hr3 hb3 d1;go_wp2_with fail;rw[rounds_succ];go_wp2_with fail;go_ret;exact⟨v3,rfl,HR3.out,HB3.out⟩
end
section
open Go.RowKit Go.Shelf Go.Lib Go.Sort Pm
theorem zSi{x y:Pr}(r:List Pr)(h:y.1=x.1):zCc (x::y::r)=zCc (y::r):=by rw[zCc,if_pos h]
theorem zVo{x y:Pr}(r:List Pr)(h:¬y.1=x.1):zCc (x::y::r)=x::zCc (y::r):=by rw[zCc,if_neg h]
theorem drop_at(l:List Pr)(k:Nat)(x:Pr)(h:l[k]?=some x):l.drop k=x::l.drop (k+1):=by
 obtain⟨hk,e⟩:=List.getElem?_eq_some_iff.1 h;rw[List.drop_eq_getElem_cons hk,e]
set_option maxHeartbeats 4000000 in
theorem zI4(w:World)(v:Value)(l:List Pr)(h:PRow w v l)(hl:l.length<549755813888):
 Calls Tryz.prog 137 #[v] w fun e w'=>∃v',e = .returned v'∧POwn w.heap.size w' v' (zCc l)∧Below w.heap.size w w':=by
 obtain⟨ad,cap,rfl⟩:∃ad cap,v = .slice ad l.length cap:=by obtain⟨ad,cap,rfl,_⟩:=h;exact⟨ad,cap,rfl⟩
 have HR:Hid (PRow w (.slice ad l.length cap) l):=h;obtain⟨n,hn⟩:∃n,l.length=n:=⟨_,rfl⟩;have HN:Hid (l.length=n):=hn;rw[hn]at HR hl;clear h;rw[hn];clear hn;go_enter Tryz.func137,Tryz.ntmps137;go_wp2
 go_loopg [3,4,5,8] n (fun g s3 _ _ s8 wr=>∃(k:Nat) (acc:List Pr),s8 = .int .i64 k∧k≤n∧n-k≤g∧Hid (POwn w.heap.size wr s3 acc)∧Hid (Below w.heap.size w wr)∧Hid (acc.length≤k)∧Hid (acc++zCc (l.drop k)=zCc l))
 case atStart=>exact⟨0,[],rfl,Nat.zero_le _,by omega,POwn.nil _ _,Below.refl _ _,Nat.le_refl _,by show _=_;simp⟩
 case round=>
  obtain⟨k,acc,rfl,hk,hg,HO,HB,HACC,HE⟩:=hrel;by_cases hlt:k<n
  · have hltz:(k:Int)<(n:Int):=by omega
    obtain⟨x,hx⟩:∃x,l[k]?=some x:=⟨l[k]'(by have:=HN.out;omega),List.getElem?_eq_getElem _⟩;obtain⟨b,off,rfl,hb,hcell⟩:=(HR.out.below HB.out).at (by omega);obtain⟨c0,c1⟩:=hcell k x hx;have HX:Hid (l[k]?=some x):=hx;have HD:Hid (l.drop k=x::l.drop (k+1)):=drop_at l k x hx;(have rk1:IntKind.i64.wrap ((k:Int)+1)=(k:Int)+1:=by rw[IntKind.wrap_i64];omega);by_cases hend:k+1=n
    · have hendz:((k:Int)+1==(n:Int))=true:=beq_iff_eq.2 (by omega)
      have HE2:Hid (acc++[x]++zCc (l.drop (k+1))=zCc l):=by
       show _=_;rw[←HE.out,HD.out,List.drop_eq_nil_of_le (by have:=HN.out;omega)];simp[zCc]
      clear hcell hx;go_wp2_with fail;go_quiet (fail);(have hWn:∀o:Obj,((wr.alloc o).drewN nq).heap.size=wr.heap.size+1:=fun o=>by simp);(have HWo:Hid (∀o:Obj,POwn w.heap.size ((wr.alloc o).drewN nq) u3 acc∧Below w.heap.size w ((wr.alloc o).drewN nq)):=fun o=>⟨HO.out.below (belowN ((Below.refl _ wr).alloc (Nat.le_refl _) _) nq),belowN (HB.out.alloc (by have:=HB.out.size;omega) _) nq⟩);go_wp2_with (at_builtin;refine zCw (by rfl) _ _ x _ rfl w.heap.size _ _ _ acc rfl (HWo.out _).1 rfl (hWn _).symm (by have:=HACC.out;omega) (HWo.out _).2.size ?_);intro v2 w2 hr2 hb2;have HR2:Hid (POwn w.heap.size w2 v2 (acc++[x])):=hr2;have HB2:Hid (Below w.heap.size w w2):=(HWo.out _).2.trans hb2;clear hr2 hb2;go_wp2_with fail;go_roundg (n-(k+1));(case measure=>omega);case rel=>exact⟨k+1,acc++[x],by go_num,by omega,Nat.le_refl _,HR2,HB2,by have:=HACC.out;show _≤_;simp;omega,HE2⟩
    · have hendz:((k:Int)+1==(n:Int))=false:=beq_eq_false_iff_ne.2 (by omega)
      obtain⟨y,hy⟩:∃y,l[k+1]?=some y:=⟨l[k+1]'(by have:=HN.out;omega),List.getElem?_eq_getElem _⟩;have HD2:Hid (l.drop (k+1)=y::l.drop (k+1+1)):=drop_at l (k+1) y hy;obtain⟨d0,d1⟩:=hcell (k+1) y hy;(have p1:(0:Int)≤(k:Int)+1:=by omega);(have b1:(k:Int)+1<(n:Int):=by omega);(have e1:((k:Int)+1).toNat=k+1:=by omega);clear hcell hx hy;by_cases hyx:y.1=x.1
      · have hs:(y.1.toList==x.1.toList)=true:=by rw[zFc];exact decide_eq_true hyx
        have HE2:Hid (acc++zCc (l.drop (k+1))=zCc l):=by
         show _=_;rw[←HE.out,HD.out,HD2.out,zSi _ hyx]
        clear hyx;go_wp2_with fail;go_quiet (fail);go_wp2_with fail;go_roundg (n-(k+1));(case measure=>omega);case rel=>exact⟨k+1,acc,by go_num,by omega,Nat.le_refl _,HO.out.below (belowN ((Below.refl _ wr).alloc (Nat.le_refl _) _) _),belowN (HB.out.alloc (by have:=HB.out.size;omega) _) _,by have:=HACC.out;show _≤_;omega,HE2⟩
      · have hs:(y.1.toList==x.1.toList)=false:=by rw[zFc];exact decide_eq_false hyx
        have HE2:Hid (acc++[x]++zCc (l.drop (k+1))=zCc l):=by
         show _=_;rw[←HE.out,HD.out,HD2.out,zVo _ hyx];simp
        clear hyx;go_wp2_with fail;go_quiet (fail);(have hWn:∀o:Obj,((wr.alloc o).drewN nq).heap.size=wr.heap.size+1:=fun o=>by simp);(have HWo:Hid (∀o:Obj,POwn w.heap.size ((wr.alloc o).drewN nq) u3 acc∧Below w.heap.size w ((wr.alloc o).drewN nq)):=fun o=>⟨HO.out.below (belowN ((Below.refl _ wr).alloc (Nat.le_refl _) _) nq),belowN (HB.out.alloc (by have:=HB.out.size;omega) _) nq⟩);go_wp2_with (at_builtin;refine zCw (by rfl) _ _ x _ rfl w.heap.size _ _ _ acc rfl (HWo.out _).1 rfl (hWn _).symm (by have:=HACC.out;omega) (HWo.out _).2.size ?_);intro v2 w2 hr2 hb2;have HR2:Hid (POwn w.heap.size w2 v2 (acc++[x])):=hr2;have HB2:Hid (Below w.heap.size w w2):=(HWo.out _).2.trans hb2;clear hr2 hb2;go_wp2_with fail;go_roundg (n-(k+1));(case measure=>omega);case rel=>exact⟨k+1,acc++[x],by go_num,by omega,Nat.le_refl _,HR2,HB2,by have:=HACC.out;show _≤_;simp;omega,HE2⟩
  · have hltz:¬(k:Int)<(n:Int):=by omega
    have HE2:Hid (acc=zCc l):=by
     show _=_;rw[←HE.out,List.drop_eq_nil_of_le (by have:=HN.out;omega)];simp[zCc]
    go_wp2_with fail;go_ret;exact⟨_,rfl,HE2.out▸HO.out,HB.out⟩
end
section
open Go.RowKit Go.Shelf Go.Lib Go.Sort Pm
set_option maxHeartbeats 1000000 in
theorem zLi(w:World):Calls Tryz.prog 180 #[.slice none 0 0,.int .i64 0,.int .i64 0,.func (.func 136) #[] #[]] w fun e w'=>e = .returned (.tuple #[])∧w'=w:=by
 go_enter Tryz.func180,Tryz.ntmps180;go_wp2;refine wp_loop_rounds 1 ?_;rw[rounds_succ];go_wp2
 go_end0
 exact⟨rfl,rfl⟩
set_option maxHeartbeats 1000000 in
theorem zRy(w:World):Calls Tryz.prog 165 #[.slice none 0 0,.int .i64 0,.func (.func 136) #[] #[]] w fun e w'=>e = .returned (.tuple #[])∧w'=w:=by
 go_enter Tryz.func165,Tryz.ntmps165;go_wp2;refine wp_loop_rounds 1 ?_;rw[rounds_succ];go_wp2_with (go_at_call 180;refine(zLi _).mono ?_;rintro e w2 ⟨rfl,rfl⟩);refine wp_loop_rounds 1 ?_;rw[rounds_succ];go_wp2
 go_end0
 exact⟨rfl,rfl⟩
set_option maxHeartbeats 1000000 in
theorem zIy(w:World):Calls Tryz.prog 135 #[.slice none 0 0,.func (.func 136) #[] #[]] w fun e w'=>e = .returned (.tuple #[])∧w'=w:=by
 go_enter Tryz.func135,Tryz.ntmps135;go_wp2_with (go_at_call 165;refine(zRy _).mono ?_;rintro e w2 ⟨rfl,rfl⟩)
 go_end0
 exact⟨rfl,rfl⟩
theorem sort_own{B:Nat}{w:World}{v:Value}{l:List Pr}(h:POwn B w v l)(hl:l.length<1125899906842624)(hB:B≤w.heap.size):
 Calls Tryz.prog 135 #[v,.func (.func 136) #[] #[]] w fun e w'=>e = .returned (.tuple #[])∧∃l',Stably zAa l l'∧POwn B w' v l'∧Below B w w':=by
 have h':=h;obtain⟨_,⟨e,h0⟩|⟨g,cap,cur,rfl,h1,hh,h3,h4,h5,h6⟩⟩:=h
 · have hl0:l=[]:=List.eq_nil_of_length_eq_zero h0
   subst hl0;subst e;refine(zIy w).mono ?_;rintro e w' ⟨rfl,rfl⟩;exact⟨rfl,[],⟨List.Pairwise.nil,fun _=>rfl⟩,h',Below.refl _ _⟩
 · obtain⟨R,S,hBg⟩:=RowP.of_own h' hl
   refine(sortStable_any g 0 l.length cap w w R hl l S rfl).mono ?_;rintro e w' ⟨rfl,l',hs,hS⟩;have hlen:=hs.len;have ho:=h'.sorted hl hS hlen;rw[hlen]at ho;exact⟨rfl,l',hs,ho,SWK.below hS hBg hB⟩
set_option maxHeartbeats 1000000 in
theorem inOrder_any(w:World)(vb n c:Nat)(l:List Pr)(hl:l.length<549755813888)
 (hc:Calls Tryz.prog 134 #[.slice (some ⟨vb,0,none⟩) n c] w fun e w'=>∃v,e = .returned v∧POwn w.heap.size w' v l∧Below w.heap.size w w'):
 Calls Tryz.prog 96 #[.slice (some ⟨vb,0,none⟩) n c] w fun e w'=>∃v,e = .returned v∧POwn w.heap.size w' v (norm zAa l)∧Below w.heap.size w w':=by
 go_enter Tryz.func96,Tryz.ntmps96;go_wp2_with (go_at_call 134;refine hc.mono ?_;rintro e w1 ⟨v1,rfl,ho1,hb1⟩);have H1:Hid (POwn w.heap.size w1 v1 l∧Below w.heap.size w w1):=⟨ho1,hb1⟩;clear hc ho1 hb1;go_wp2_with (go_at_call 135;refine(sort_own H1.out.1 (by omega) H1.out.2.size).mono ?_;rintro e w2 ⟨rfl,l',hs,ho2,hb2⟩);have H2:Hid (Stably zAa l l'∧POwn w.heap.size w2 v1 l'∧Below w.heap.size w w2):=⟨hs,ho2,H1.out.2.trans hb2⟩;clear hs ho2 hb2;go_wp2_with (go_at_call 137;refine(zI4 w2 v1 l' H2.out.2.1.row (by have:=H2.out.1.len;omega)).mono ?_;rintro e w3 ⟨v3,rfl,ho3,hb3⟩);go_ret;have e1:=zI3 lessB_sto H2.out.1;rw[e1]at ho3;exact⟨v3,rfl,ho3.mono H2.out.2.2.size,H2.out.2.2.trans (hb3.mono H2.out.2.2.size)⟩
set_option maxHeartbeats 1000000 in
theorem zRm(w:World)(v:Value)(l:List Pr)(h:PRow w v l)(hl:l.length<549755813888):
 Calls Tryz.prog 77 #[v] w fun e w'=>∃v',e = .returned v'∧POwn w.heap.size w' v' (norm zAa l)∧Below w.heap.size w w':=by
 obtain⟨ad,cap,rfl⟩:=h.form;have hc:=fun o=>(⟨h.below ((Below.refl _ w).alloc (Nat.le_refl _) o),(Below.refl _ w).alloc (Nat.le_refl _) o⟩:PRow (w.alloc o) (.slice ad l.length cap) l∧Below w.heap.size w (w.alloc o))
 have HC:Hid _:=hc;clear hc h;go_enter Tryz.func77,Tryz.ntmps77;go_wp2_with (go_at_call 96;refine(inOrder_any _ _ _ _ l hl (zPp _ _ _ _ l (HC.out _).1 hl (by simp) (by simp))).mono ?_;rintro e w1 ⟨v1,rfl,ho1,hb1⟩);go_ret;exact⟨v1,rfl,ho1.mono (HC.out _).2.size,(HC.out _).2.trans (hb1.mono (HC.out _).2.size)⟩
end
section
open Go.RowKit Go.Shelf Go.Lib Go.Sort Pm
theorem zDl{g:Nat}{T:TypeId}{f:Nat×Nat}:∀(vs:List Value) (o:Nat) (w:World) (cur:Array Value),w.heap[g]?=some (.cells cur T f)→∃cur',cur'.size=cur.size∧(w.setCells g o vs).heap[g]?=some (.cells cur' T f)
 |[],_,_,cur,h=>⟨cur,rfl,h⟩
 |v::r,o,w,cur,h=>by
  have h2:(w.setCell ⟨g,o,none⟩ v).heap[g]?=some (.cells (cur.setIfInBounds o v) T f):=by simp[World.setCell,Array.getElem?_modify,h]
  obtain⟨cur',h3,h4⟩:=zDl r (o+1) _ _ h2;exact⟨cur',by rw[h3];simp,h4⟩
theorem zCy{g B:Nat}(hB:B≤g):∀(vs:List Value) (o:Nat) (a w:World),Below B a w→Below B a (w.setCells g o vs)
 |[],_,_,_,h=>h
 |v::r,o,a,_,h=>zCy hB r (o+1) a _ (h.setCell (p:=⟨g,o,none⟩) hB v)
theorem POwn.block{B:Nat}{w:World}{g cap n:Nat}{l:List Pr}(h:POwn B w (.slice (some ⟨g,0,none⟩) n cap) l):∃cur,B≤g∧w.heap[g]?=some (.cells cur 64 (0,0))∧n=l.length∧n≤cap∧cap≤maxLen∧cur.size=cap*2∧(∀i x,l[i]?=some x→TwoAt w g (i*2) x)∧∀o,w.frozen? ⟨g,o,none⟩=false:=by
 obtain⟨_,⟨e,_⟩|⟨g',cap',cur,e,h1,hh,h3,h4,h5,h6⟩⟩:=h
 · cases e
 · simp only[Value.slice.injEq,Option.some.injEq,Addr.mk.injEq]at e
   obtain⟨⟨rfl,_⟩,rfl,rfl⟩:=e;exact⟨cur,h1,hh,rfl,h3,h4,h5,fun i x hi=>by have:=POwn.cells hh h6 i x hi;rwa [Nat.zero_add]at this,fun o=>by simp[World.frozen?,hh]⟩
theorem POwn.set{B:Nat}{w:World}{g cap n:Nat}{l:List Pr}(h:POwn B w (.slice (some ⟨g,0,none⟩) n cap) l)(i:Nat)(x:Pr):POwn B (w.setCells g (i*2) (encP x)) (.slice (some ⟨g,0,none⟩) n cap) (l.set i x):=by
 obtain⟨cur,h1,hh,rfl,h3,h4,h5,hc,hf⟩:=h.block;obtain⟨cur',k1,k2⟩:=zDl (encP x) (i*2) w cur hh;have:=POwn.of_cells (B:=B) (cap:=cap) (l:=l.set i x) h1 k2 (by simpa using h3) h4 (by omega) fun j y hj=>by
  by_cases e:j=i
  · subst e
    (have hjl:j<l.length:=by have:=(List.getElem?_eq_some_iff.1 hj).1;simpa using this);rw[List.getElem?_set_self hjl]at hj;simp only[Option.some.injEq]at hj;subst hj;have t:=hc j l[j] (List.getElem?_eq_getElem hjl);have a0:((w.setCell ⟨g,j*2,none⟩ (.string x.1)).cell? ⟨g,j*2,none⟩)=some (.string x.1):=World.cell?_setCell_same' _ _ _ (by rw[t.c0];rfl);refine⟨?_,?_⟩
    · show((w.setCell ⟨g,j*2,none⟩ (.string x.1)).setCell ⟨g,j*2+1,none⟩ (.int .i64 x.2)).cell? ⟨g,j*2,none⟩=_
      have:=World.cell?_setCells_out g [.int .i64 x.2] (j*2+1) (w.setCell ⟨g,j*2,none⟩ (.string x.1)) ⟨g,j*2,none⟩ (fun _ _=>by simp);exact this.trans a0
    · show((w.setCell ⟨g,j*2,none⟩ (.string x.1)).setCell ⟨g,j*2+1,none⟩ (.int .i64 x.2)).cell? ⟨g,j*2+1,none⟩=_
      refine World.cell?_setCell_same' _ _ _ ?_;have:(w.setCell ⟨g,j*2,none⟩ (.string x.1)).cell? ⟨g,j*2+1,none⟩=w.cell? ⟨g,j*2+1,none⟩:=World.cell?_setCells_out g [.string x.1] (j*2) w ⟨g,j*2+1,none⟩ (fun _ _=>by simp);rw[this,t.c1];rfl
  · rw[List.getElem?_set_ne (fun e2=>e e2.symm)]at hj
    have t:=hc j y hj;refine⟨?_,?_⟩
    · rw[World.cell?_setCells_out g _ _ _ _ (fun _ _=>by rw[encP_k];show j*2<i*2∨i*2+2≤j*2;omega)];exact t.c0
    · rw[World.cell?_setCells_out g _ _ _ _ (fun _ _=>by rw[encP_k];show j*2+1<i*2∨i*2+2≤j*2+1;omega)];exact t.c1
 simpa using this
theorem POwn.cut{B:Nat}{w:World}{g cap n:Nat}{l:List Pr}(h:POwn B w (.slice (some ⟨g,0,none⟩) n cap) l)(j:Nat)(hj:j≤n)(vs:List Value):POwn B (w.setCells g (j*2) vs) (.slice (some ⟨g,0,none⟩) j cap) (l.take j):=by
 obtain⟨cur,h1,hh,rfl,h3,h4,h5,hc,hf⟩:=h.block;obtain⟨cur',k1,k2⟩:=zDl vs (j*2) w cur hh;have hl:(l.take j).length=j:=by simp;omega
 have:=POwn.of_cells (B:=B) (cap:=cap) (l:=l.take j) h1 k2 (by omega) h4 (by omega) fun i y hi=>by
  have hil:=(List.getElem?_eq_some_iff.1 hi).1;rw[hl]at hil;rw[List.getElem?_take,if_pos hil]at hi;have t:=hc i y hi;refine⟨?_,?_⟩
  · rw[World.cell?_setCells_out g _ _ _ _ (fun _ _=>by show i*2<_∨_;omega)];exact t.c0
  · rw[World.cell?_setCells_out g _ _ _ _ (fun _ _=>by show i*2+1<_∨_;omega)];exact t.c1
 rw[hl]at this;exact this
theorem zW4{B:Nat}{w:World}{g cap n:Nat}{l:List Pr}(h:POwn B w (.slice (some ⟨g,0,none⟩) n cap) l)(j m c:Nat)(hj:j+m=n)(ty:TypeId):
 ∃vs,(Builtin.clear_ #[22] ty #[.slice (some ⟨g,j*2,none⟩) m c]).run Tryz.prog w = .ok (.tuple #[]) (w.setCells g (j*2) vs):=by
 obtain⟨cur,h1,hh,rfl,h3,h4,h5,hc,hf⟩:=h.block;cases m with
 |zero=>exact⟨[],by simp[Builtin.clear_,run_underlying Tryz.underlying22];rfl⟩
 |succ m=>
  have hz:∀w,(zeroValue 64).run Tryz.prog w = .ok (.agg #[.string ByteArray.empty,.int .i64 0]) w:=Tryz.zeroValue64
  let vs:=(Builtin.zeroCells (Value.agg #[.string ByteArray.empty,.int .i64 0]).cells (m+1)).toList
  have hlen:vs.length=(m+1)*2:=by simp[vs,Builtin.zeroCells,Value.cells]
  have hone:∀v∈vs,v.oneCell'=true:=by
   intro v hv;simp only[vs,Builtin.zeroCells,Value.cells,Array.toList_map,List.mem_map]at hv;obtain⟨i,_,rfl⟩:=hv;(have:i%2=0∨i%2=1:=by omega);rcases this with e|e
   · show(Array.getD _ _ _:Value).oneCell'=true
     simp[e];rfl
   · show(Array.getD _ _ _:Value).oneCell'=true
     simp[e];rfl
  have hst:=run_storeCells_cells (P:=Tryz.prog) g (j*2) vs 0 w (fun t ht=>by
   (have hsz:j*2+0+t<cur.size:=by omega);simp[World.cell?,hh];omega) (fun t _=>hf _) hone
  refine⟨vs,?_⟩;simp only[Nat.add_zero]at hst;simp[Builtin.clear_,run_underlying Tryz.underlying22,hz];rw[show(Builtin.zeroCells (Value.agg #[.string ByteArray.empty,.int .i64 0]).cells (m+1)).toList=vs from rfl];simp[hst]
end
section
open Go.RowKit Go.Shelf Go.Lib Go.Sort Pm
set_option maxHeartbeats 400000 in
theorem zE9(s:ByteArray)(n:Int)(w:World):Calls Tryz.prog 97 #[.agg #[.string s,.int .i64 n]] w fun e w'=>e = .returned (.bool (n==0))∧Below w.heap.size w w':=by
 go_enter Tryz.func97,Tryz.ntmps97;go_wp2;go_ret;exact⟨rfl,(Below.refl _ w).alloc (Nat.le_refl _) _⟩
def IdxIs(l:List Pr)(r:Int):Prop:=(r = -1∧∀x∈l,¬x.2=0)∨∃P x S,l=P++x::S∧(∀y∈P,¬y.2=0)∧x.2=0∧r=(P.length:Nat)
set_option maxHeartbeats 2000000 in
theorem zLj(w:World)(v:Value)(l:List Pr)(h:PRow w v l)(hl:l.length<549755813888):
 Calls Tryz.prog 133 #[v,.func (.func 97) #[] #[]] w fun e w'=>∃r:Int,e = .returned (.int .i64 r)∧Below w.heap.size w w'∧IdxIs l r:=by
 obtain⟨ad,cap,rfl⟩:=h.form;have HR:Hid (PRow w (.slice ad l.length cap) l):=h;obtain⟨n,hn⟩:∃n,l.length=n:=⟨_,rfl⟩;have HN:Hid (l.length=n):=hn;have eg:∀args w,(callFunc 97 args).run Tryz.prog w = .ok (.enter 97 args) w:=enters_of Tryz.func97 (by kernel_rfl) rfl;rw[hn]at HR hl;clear h;rw[hn];clear hn;go_enter Tryz.func133,Tryz.ntmps133;go_wp2
 go_loopg [5,8] n (fun g _ s8 wr=>∃(k:Nat),s8 = .int .i64 k∧k≤n∧n-k≤g∧Hid (Below w.heap.size w wr)∧Hid (∀x∈l.take k,¬x.2=0))
 case atStart=>exact⟨0,rfl,Nat.zero_le _,by omega,Below.refl _ _,by show ∀x∈l.take 0,_;simp⟩
 case round=>
  obtain⟨k,rfl,hk,hg,HB,HA⟩:=hrel;by_cases hlt:k<n
  · have hltz:(k:Int)<(n:Int):=by omega
    obtain⟨x,hx⟩:∃x,l[k]?=some x:=⟨l[k]'(by have:=HN.out;omega),List.getElem?_eq_getElem _⟩;obtain⟨b,off,rfl,hb,hcell⟩:=(HR.out.below HB.out).at (by omega);obtain⟨c0,c1⟩:=hcell k x hx;have HX:Hid (l[k]?=some x):=hx;clear hx hcell;(have hc:=fun W=>zE9 x.1 x.2 W);by_cases h0:x.2=0
    · have h0b:(x.2==0)=true:=beq_iff_eq.2 h0
      have H0:Hid (x.2=0):=h0;clear h0;go_wp2_with (first|(go_at_fn 97;refine(hc _).mono ?_;rintro e w2 ⟨rfl,hb2⟩)|(go_at_call 97;refine(hc _).mono ?_;rintro e w2 ⟨rfl,hb2⟩));go_ret;obtain⟨hk2,ex⟩:=List.getElem?_eq_some_iff.1 HX.out;refine⟨_,rfl,HB.out.trans (hb2.mono HB.out.size),.inr ⟨l.take k,x,l.drop (k+1),?_,HA.out,H0.out,?_⟩⟩
      · rw[←ex,←List.drop_eq_getElem_cons hk2,List.take_append_drop]
      · rw[List.length_take,Nat.min_eq_left (by omega)]
    · have h0b:(x.2==0)=false:=beq_eq_false_iff_ne.2 h0
      have H0:Hid (¬x.2=0):=h0;clear h0;go_wp2_with (first|(go_at_fn 97;refine(hc _).mono ?_;rintro e w2 ⟨rfl,hb2⟩)|(go_at_call 97;refine(hc _).mono ?_;rintro e w2 ⟨rfl,hb2⟩));go_roundg (n-(k+1));case measure=>omega
      case rel=>
       refine⟨k+1,by go_num,by omega,Nat.le_refl _,HB.out.trans (hb2.mono HB.out.size),?_⟩;show ∀y∈l.take (k+1),_;intro y hy;obtain⟨hk2,ex⟩:=List.getElem?_eq_some_iff.1 HX.out;rw[List.take_succ_eq_append_getElem hk2,ex]at hy;rcases List.mem_append.1 hy with h|h
       · exact HA.out y h
       · rw[List.mem_singleton.1 h];exact H0.out
  · have hltz:¬(k:Int)<(n:Int):=by omega
    go_wp2;go_ret;refine⟨_,rfl,HB.out,.inl ⟨rfl,?_⟩⟩;have h:=HA.out;rw[List.take_of_length_le (by have:=HN.out;omega)]at h;exact h
theorem zQz{l:List Pr}(h:∀x∈l,¬x.2=0):keep l=l:=List.filter_eq_self.2 fun x hx=>by simpa using h x hx
theorem zE4(a b:List Pr):keep (a++b)=keep a++keep b:=List.filter_append ..
structure DelAt(l:List Pr)(i j n:Nat)(m:List Pr):Prop where
 ij:i<j
 jn:j≤n
 len:l.length=n
 ex:∃M,m=keep (l.take j)++(M++l.drop j)∧(keep (l.take j)).length=i∧i+M.length=j
theorem DelAt.mlen{l m:List Pr}{i j n:Nat}(h:DelAt l i j n m):m.length=n:=by
 obtain⟨M,e,h1,h2⟩:=h.ex;have:=h.len;have:=h.jn;rw[e,List.length_append,List.length_append,List.length_drop];omega
theorem zD4{l:List Pr}{j:Nat}{y:Pr}(h:l[j]?=some y):l.take (j+1)=l.take j++[y]:=by
 obtain⟨hk,e⟩:=List.getElem?_eq_some_iff.1 h;rw[List.take_succ_eq_append_getElem hk,e]
theorem DelAt.at{l m:List Pr}{i j n:Nat}(h:DelAt l i j n m){y:Pr}(hy:l[j]?=some y):m[j]?=some y:=by
 obtain⟨M,e,h1,h2⟩:=h.ex;rw[e,←List.append_assoc,List.getElem?_append_right (by rw[List.length_append];omega),List.length_append,show j-((keep (l.take j)).length+M.length)=0 by omega,drop_at l j y hy];rfl
theorem DelAt.skip{l m:List Pr}{i j n:Nat}(h:DelAt l i j n m){y:Pr}(hy:l[j]?=some y)(h0:y.2=0):DelAt l i (j+1) n m:=by
 obtain⟨M,e,h1,h2⟩:=h.ex;have hk:=(List.getElem?_eq_some_iff.1 hy).1;have ek:keep (l.take (j+1))=keep (l.take j):=by rw[zD4 hy,zE4];simp[keep,h0]
 refine⟨by have:=h.ij;omega,by have:=h.len;omega,h.len,M++[y],?_,by rw[ek];exact h1,by simp;omega⟩;rw[ek,e,drop_at l j y hy];simp
theorem DelAt.put{l m:List Pr}{i j n:Nat}(h:DelAt l i j n m){y:Pr}(hy:l[j]?=some y)(h0:¬y.2=0):DelAt l (i+1) (j+1) n (m.set i y):=by
 obtain⟨M,e,h1,h2⟩:=h.ex;have hk:=(List.getElem?_eq_some_iff.1 hy).1;have ek:keep (l.take (j+1))=keep (l.take j)++[y]:=by rw[zD4 hy,zE4];simp[keep,h0]
 have hij:=h.ij;cases M with
 |nil=>simp at h2;omega
 |cons m0 M1=>
  refine⟨by omega,by have:=h.len;omega,h.len,M1++[y],?_,by rw[ek];simp;omega,by simp at h2 ⊢;omega⟩;rw[ek,e,drop_at l j y hy,List.set_append_right _ _ (by omega),show i-(keep (l.take j)).length=0 by omega];simp
theorem DelAt.start{P S:List Pr}{x:Pr}(h:∀y∈P,¬y.2=0)(h0:x.2=0){n:Nat}(hn:(P++x::S).length=n):DelAt (P++x::S) P.length (P.length+1) n (P++x::S):=by
 have e1:(P++x::S).take (P.length+1)=P++[x]:=by rw[List.take_append,List.take_of_length_le (by omega)];simp
 have e2:(P++x::S).drop (P.length+1)=S:=by rw[List.drop_append,List.drop_eq_nil_of_le (by omega)];simp
 have ek:keep (P++[x])=P:=by rw[zE4,zQz h];simp[keep,h0]
 refine⟨by omega,by simp at hn;omega,hn,[x],?_,?_,by simp⟩
 · rw[e1,e2,ek];simp
 · rw[e1,ek]
theorem DelAt.fin{l m:List Pr}{i j n:Nat}(h:DelAt l i j n m)(hj:¬j<n):m.take i=keep l:=by
 obtain⟨M,e,h1,h2⟩:=h.ex;have:=h.len;rw[e,List.take_append_of_le_length (by omega),←h1,List.take_length,List.take_of_length_le (by omega)]
end
section
namespace Mq
open Go.RowKit Go.Shelf Go.Lib Go.Sort Pm
abbrev Pr:=ByteArray×(Int×Int)
def encP(x:Pr):List Value:=[.string x.1,.int .i64 x.2.1,.int .i64 x.2.2]
def valP(x:Pr):Value := .agg #[.string x.1,.int .i64 x.2.1,.int .i64 x.2.2]
def cfP(x y:Pr):Int:=if zAa x.1 y.1 then -1 else if zAa y.1 x.1 then 1 else 0
theorem cfP_lt(x y:Pr):ltOf cfP x y=plt zAa x y:=by
 unfold ltOf cfP plt;cases zAa x.1 y.1<;>cases zAa y.1 x.1<;>rfl
theorem cfP_ltf:ltOf cfP=plt zAa:=funext fun x=>funext fun y=>cfP_lt x y
set_option maxHeartbeats 1000000 in
theorem inOrder_any(a b:ByteArray)(w:World):Calls Tryz.prog 82 #[.string a,.string b] w fun e w'=>e = .returned (.int .i64 (if zAa a b then -1 else if zAa b a then 1 else 0))∧w'=w:=by
 have h1:=fun W'=>zDb a b W'
 have h2:=fun W'=>zDb b a W'
 have HC:Hid ((if zAa a b then (-1:Int)else if zAa b a then 1 else 0)=if zAa a b then -1 else if zAa b a then 1 else 0):=rfl;generalize zAa a b=b1 at h1 HC ⊢;generalize zAa b a=b2 at h2 HC ⊢;cases b1
 · cases b2
   all_goals
    go_enter Tryz.func82,Tryz.ntmps82;go_wp2_with (first|(go_at_call 100;refine(h1 _).mono ?_;rintro e w' ⟨rfl,rfl⟩)|(go_at_call 100;refine(h2 _).mono ?_;rintro e w' ⟨rfl,rfl⟩));go_ret;exact⟨rfl,rfl⟩
 · go_enter Tryz.func82,Tryz.ntmps82
   go_wp2_with (go_at_call 100;refine(h1 _).mono ?_;rintro e w' ⟨rfl,rfl⟩);go_ret;exact⟨rfl,rfl⟩
set_option maxHeartbeats 1000000 in
theorem byWord_any(x y:Pr)(W:World):Calls Tryz.prog 81 #[.agg #[.string x.1,.int .i64 x.2.1,.int .i64 x.2.2],.agg #[.string y.1,.int .i64 y.2.1,.int .i64 y.2.2]] W fun e w'=>e = .returned (.int .i64 (cfP x y))∧∃q os',w'=grow (W.drewN q) os':=by
 have h1:=fun W'=>inOrder_any x.1 y.1 W'
 have HC:Hid (cfP x y=if zAa x.1 y.1 then -1 else if zAa y.1 x.1 then 1 else 0):=rfl;generalize (if zAa x.1 y.1 then (-1:Int)else if zAa y.1 x.1 then 1 else 0)=c at h1 HC;go_enter Tryz.func81,Tryz.ntmps81;go_wp2_with (go_at_call 82;refine(h1 _).mono ?_;rintro e w' ⟨rfl,rfl⟩);go_ret;exact⟨by rw[HC.out];rfl,0,_,by rw[alloc_eq_grow,alloc_eq_grow,grow_grow];rfl⟩
theorem byWord_lays(blk off size:Nat)(w:World):CmpLays Tryz.prog 81 #[] encP 3 cfP blk off size w:=
 fun _ _ _ _ x y=>byWord_any x y _
def loadP(P:Program)(x:Value)(w:World):Result Value:=(Instr.loadAt 74 x).run P w
def storeP(P:Program)(x y:Value)(w:World):Result Unit:=(Instr.storeAt 74 x y).run P w
section
variable (ρ:Operand→Value) (x y:Operand) (dst:Option Tmp) (ty:TypeId) (pos:String) (af:Array Edge) (g:Option (Nat×Bool)) (w:World)
theorem exec_load_P:(execOp ρ ⟨dst,.load 74 x,ty,pos,af,g⟩).run Tryz.prog w=(loadP Tryz.prog (ρ x) w).andThen (fun v w' => .ok (.value v) w'):=by
 simp only[execOp,Sem.run_bind,loadP,Sem.run_pure]
theorem exec_store_P:(execOp ρ ⟨dst,.store 74 x y,ty,pos,af,g⟩).run Tryz.prog w=(storeP Tryz.prog (ρ x) (ρ y) w).andThen (fun _ w' => .ok .skip w'):=by
 simp only[execOp,Sem.run_bind,storeP,Sem.run_pure]
end
theorem loadP_at{w:World}{b o:Nat}{x:Pr}(h0:w.cell? ⟨b,o,none⟩=some (.string x.1))(h1:w.cell? ⟨b,o+1,none⟩=some (.int .i64 x.2.1))(h2:w.cell? ⟨b,o+2,none⟩=some (.int .i64 x.2.2)):loadP Tryz.prog (.pointer (some ⟨b,o,none⟩)) w = .ok (valP x) w:=by
 unfold loadP valP;simp[go_sem,h0,h1,h2];try rfl
theorem storeP_at{w:World}{b o:Nat}{x:Pr}{u v z:Value}(h0:w.cell? ⟨b,o,none⟩=some u)(h1:w.cell? ⟨b,o+1,none⟩=some v)(h2:w.cell? ⟨b,o+2,none⟩=some z)(f0:w.frozen? ⟨b,o,none⟩=false)(f1:w.frozen? ⟨b,o+1,none⟩=false)(f2:w.frozen? ⟨b,o+2,none⟩=false):storeP Tryz.prog (.pointer (some ⟨b,o,none⟩)) (valP x) w = .ok () (w.setCells b o (encP x)):=by
 unfold storeP valP;simp[go_sem,h0,h1,h2,f0,f1,f2,encP,World.setCells];try rfl
theorem cellP0{w:World}{blk off:Nat}{d:Array Pr}(h:HoldsK encP 3 w blk off d){i:Nat}(hi:i<d.size):w.cell? ⟨blk,off+i*3,none⟩=some (.string d[i]!.1)∧w.frozen? ⟨blk,off+i*3,none⟩=false:=h.cell (c:=0) hi (by omega)
theorem cellP1{w:World}{blk off:Nat}{d:Array Pr}(h:HoldsK encP 3 w blk off d){i:Nat}(hi:i<d.size):w.cell? ⟨blk,off+i*3+1,none⟩=some (.int .i64 d[i]!.2.1)∧w.frozen? ⟨blk,off+i*3+1,none⟩=false:=h.cell (c:=1) hi (by omega)
theorem cellP2{w:World}{blk off:Nat}{d:Array Pr}(h:HoldsK encP 3 w blk off d){i:Nat}(hi:i<d.size):w.cell? ⟨blk,off+i*3+2,none⟩=some (.int .i64 d[i]!.2.2)∧w.frozen? ⟨blk,off+i*3+2,none⟩=false:=h.cell (c:=2) hi (by omega)
theorem encP_k(x:Pr):(encP x).length=3:=rfl
theorem encP_one(x:Pr):∀v∈encP x,v.oneCell'=true:=by intro v hv;simp[encP]at hv;rcases hv with rfl|rfl|rfl<;>rfl
structure RowP(w0:World)(blk off n:Nat):Prop where
 ex:∃d0:Array Pr,d0.size=n∧RowK encP 3 w0 blk off d0
 big:n<4611686018427387904
section
variable {w0 W:World} {blk off n:Nat} {d:Array Pr}
theorem RowP.holds(R:RowP w0 blk off n)(S:SWK encP 3 w0 blk off d W)(hs:d.size=n):HoldsK encP 3 W blk off d:=by
 obtain⟨⟨d0,e,K⟩,_⟩:=R;exact S.holds K.hblk K.hH (by omega)
theorem RowP.load(R:RowP w0 blk off n)(S:SWK encP 3 w0 blk off d W)(hs:d.size=n)(i:Nat)(hi:i<n):loadP Tryz.prog (.pointer (some ⟨blk,off+i*3,none⟩)) W = .ok (valP d[i]!) W:=by
 have H:=R.holds S hs;exact loadP_at (cellP0 H (by omega)).1 (cellP1 H (by omega)).1 (cellP2 H (by omega)).1
theorem RowP.ld(R:RowP w0 blk off n)(S:SWK encP 3 w0 blk off d W)(hs:d.size=n)(i:Nat)(hi:i<n)(q:Nat)(os:Array Obj):loadP Tryz.prog (.pointer (some ⟨blk,off+i*3,none⟩)) (grow (W.drewN q) os) = .ok (valP d[i]!) (grow (W.drewN q) os):=R.load (S.grown q os) hs i hi
theorem RowP.ld1(R:RowP w0 blk off n)(S:SWK encP 3 w0 blk off d W)(hs:d.size=n)(i:Nat)(hi:i<n):loadP Tryz.prog (.pointer (some ⟨blk,off+i*3,none⟩)) W.drew = .ok (valP d[i]!) W.drew:=R.load S.drew hs i hi
theorem RowP.st1(R:RowP w0 blk off n)(S:SWK encP 3 w0 blk off d W)(hs:d.size=n)(i:Nat)(hi:i<n)(y:Pr):storeP Tryz.prog (.pointer (some ⟨blk,off+i*3,none⟩)) (valP y) W.drew = .ok () (W.drew.setCells blk (off+i*3) (encP y)):=by
 have H:=R.holds S.drew hs;exact storeP_at (cellP0 H (by omega)).1 (cellP1 H (by omega)).1 (cellP2 H (by omega)).1 (cellP0 H (by omega)).2 (cellP1 H (by omega)).2 (cellP2 H (by omega)).2
theorem RowP.st2(R:RowP w0 blk off n)(S:SWK encP 3 w0 blk off d W)(hs:d.size=n)(i j:Nat)(hi:i<n)(hj:j<n)(y x:Pr):
 storeP Tryz.prog (.pointer (some ⟨blk,off+j*3,none⟩)) (valP x) (W.drew.setCells blk (off+i*3) (encP y)) = .ok () ((W.drew.setCells blk (off+i*3) (encP y)).setCells blk (off+j*3) (encP x)):=by
 have H:=holds_setCells_c (R.holds S.drew hs) (i*3) (encP y) (by rw[encP_k,size_flatK];omega);have c0:=H (j*3) (by rw[size_setMany,size_flatK];omega);have c1:=H (j*3+1) (by rw[size_setMany,size_flatK];omega);have c2:=H (j*3+2) (by rw[size_setMany,size_flatK];omega);exact storeP_at c0.1 (by rw[Nat.add_assoc];exact c1.1) (by rw[Nat.add_assoc];exact c2.1) c0.2 (by rw[Nat.add_assoc];exact c1.2) (by rw[Nat.add_assoc];exact c2.2)
theorem RowP.swapped(R:RowP w0 blk off n)(S:SWK encP 3 w0 blk off d W)(hs:d.size=n)(i j:Nat)(hi:i<n)(hj:j<n):
 SWK encP 3 w0 blk off (swp d i j) ((W.drew.setCells blk (off+i*3) (encP d[j]!)).setCells blk (off+j*3) (encP d[i]!)):=by
 obtain⟨⟨d0,e,K⟩,_⟩:=R;exact S.swapped K i j (by omega) (by omega)
theorem RowP.cmp(S:SWK encP 3 w0 blk off d W)(x y:Pr)(q:Nat)(os:Array Obj):
 Calls Tryz.prog 81 #[valP x,valP y] (grow (W.drewN q) os) fun e w'=>e = .returned (.int .i64 (cfP x y))∧∃q' os',w'=grow ((grow (W.drewN q) os).drewN q') os':=S.cmp (byWord_lays blk off d.size w0) rfl x y q os
end
end Mq
end
section
namespace Mq
open Go.RowKit Go.Shelf Go.Lib Go.Sort Pm
set_option maxRecDepth 1000000
attribute [local go_sem ↓] exec_load_P exec_store_P
set_option maxHeartbeats 4000000 in
theorem swapRange_any(blk off n cap:Nat)(w0 w:World)(R:RowP w0 blk off n)(A X M Y B:List Pr)(S:SWK encP 3 w0 blk off (A++(X++(M++(Y++B)))).toArray w)(hn:(A++(X++(M++(Y++B)))).length=n)(hxy:X.length=Y.length)(a b c:Nat)(ha:a=A.length)(hb:b=A.length+X.length+M.length)(hc:c=X.length):
 Calls Tryz.prog 195 #[.slice (some ⟨blk,off,none⟩) n cap,.int .i64 a,.int .i64 b,.int .i64 c,.func (.func 81) #[] #[]] w fun e w'=>e = .returned (.tuple #[])∧SWK encP 3 w0 blk off (A++(Y++(M++(X++B)))).toArray w':=by
 have hbig:=R.big;have S0:Aside (SWK encP 3 w0 blk off (A++(X++(M++(Y++B)))).toArray w):=S;have hn':A.length+(X.length+(M.length+(Y.length+B.length)))=n:=by simpa using hn
 have HN:Hid (A.length+(X.length+(M.length+(Y.length+B.length)))=n):=hn';have HXY:Hid (X.length=Y.length):=hxy;have HA:Hid (a=A.length):=ha;have HB:Hid (b=A.length+X.length+M.length):=hb;have HC:Hid (c=X.length):=hc;have hbn:b+c≤n:=by omega
 have habn:a+c≤n:=by omega
 have mixed:=zAr;clear S hn hn' hxy ha hb hc;go_enter Tryz.func195,Tryz.ntmps195;go_wp2
 go_loopg [10] c (fun g s10 wr=>∃(i:Nat) (l:List Pr),s10 = .int .i64 i∧i≤c∧c-i≤g∧l.length=n∧Aside (SWK encP 3 w0 blk off l.toArray wr)∧Hid (l=A++(Y.take i++(X.drop i++(M++(X.take i++(Y.drop i++B)))))))
 case atStart=>exact⟨0,_,rfl,Nat.zero_le _,by omega,by simpa using HN.out,S0,by show _=_;simp⟩
 case round=>
  clear S0;obtain⟨i,l,rfl,hic,hg,hln,S1,HL⟩:=hrel;by_cases hlt:i<c
  · have hltz:(i:Int)<(c:Int):=by omega
    (have hX:i<X.length:=by have:=HC.out;omega);(have hY:i<Y.length:=by have:=HXY.out;omega);(have ea:((a:Int)+(i:Int)).toNat=a+i:=by omega);(have pa:(0:Int)≤(a:Int)+(i:Int):=by omega);(have ba:(a:Int)+(i:Int)<(n:Int):=by omega);(have ra:IntKind.i64.wrap ((a:Int)+(i:Int))=(a:Int)+(i:Int):=by rw[IntKind.wrap_i64];omega);(have ec:((b:Int)+(i:Int)).toNat=b+i:=by omega);(have pc:(0:Int)≤(b:Int)+(i:Int):=by omega);(have bc:(b:Int)+(i:Int)<(n:Int):=by omega);(have rc:IntKind.i64.wrap ((b:Int)+(i:Int))=(b:Int)+(i:Int):=by rw[IntKind.wrap_i64];omega);(have hs:l.toArray.size=n:=by simpa using hln);have S2:Aside (SWK encP 3 w0 blk off (swp l.toArray (a+i) (b+i)) ((wr.drew.setCells blk (off+(a+i)*3) (encP l.toArray[b+i]!)).setCells blk (off+(b+i)*3) (encP l.toArray[a+i]!))):=R.swapped S1.out hs (a+i) (b+i) (by omega) (by omega);have la:=R.ld1 S1.out hs (a+i) (by omega);have lb:=R.ld1 S1.out hs (b+i) (by omega);have sa:=R.st1 S1.out hs (a+i) (by omega) l.toArray[b+i]!;have sb:=R.st2 S1.out hs (a+i) (b+i) (by omega) (by omega) l.toArray[b+i]! l.toArray[a+i]!;have HSW:Hid (swp l.toArray (a+i) (b+i)=(A++(Y.take (i+1)++(X.drop (i+1)++(M++(X.take (i+1)++(Y.drop (i+1)++B)))))).toArray):=by
     show _=_;have e:l=(A++Y.take i)++X[i]::((X.drop (i+1)++(M++X.take i))++Y[i]::(Y.drop (i+1)++B)):=by
      rw[HL.out,List.drop_eq_getElem_cons hX,List.drop_eq_getElem_cons hY];simp only[List.append_assoc,List.cons_append]
     rw[zPz l _ _ _ _ _ (a+i) (b+i) e (by simp;have:=HA.out;omega) (by simp;have:=HB.out;have:=HXY.out;omega),List.take_succ_eq_append_getElem hX,List.take_succ_eq_append_getElem hY];simp only[List.append_assoc,List.cons_append,List.nil_append]
    generalize l.toArray[b+i]! = yI at S2 lb sa sb;generalize l.toArray[a+i]! = xI at S2 la sb;clear S1 hs hX hY;go_wp2_with fail
    go_big_region_o
    clear la lb sa sb;generalize (wr.drew.setCells blk (off+(a+i)*3) (encP yI)).setCells blk (off+(b+i)*3) (encP xI)=w2 at S2 ⊢;go_wp2;go_roundg (c-(i+1));(case measure=>omega);case rel=>exact⟨i+1,_,by go_num,by omega,Nat.le_refl _,by have:=HN.out;have:=HXY.out;have:=HC.out;simp;omega,HSW.out▸S2,rfl⟩
  · have hltz:¬(i:Int)<(c:Int):=by omega
    go_wp2
    go_end0
    have e:l=A++(Y++(M++(X++B))):=by
     (have h1:X.length≤i:=by have:=HC.out;omega);(have h2:Y.length≤i:=by have:=HXY.out;omega);rw[HL.out,List.take_of_length_le h1,List.take_of_length_le h2,List.drop_eq_nil_of_le h1,List.drop_eq_nil_of_le h2];simp
    exact⟨rfl,e▸S1.out⟩
end Mq
end
section
namespace Mq
open Go.RowKit Go.Shelf Go.Lib Go.Sort Pm
set_option maxRecDepth 1000000
set_option maxHeartbeats 4000000 in
theorem rotate_any(blk off n cap:Nat)(w0 w:World)(R:RowP w0 blk off n)(A X Y B:List Pr)(S:SWK encP 3 w0 blk off (A++(X++(Y++B))).toArray w)(hn:(A++(X++(Y++B))).length=n)(hx:0<X.length)(hy:0<Y.length)(a m b:Nat)(ha:a=A.length)(hm:m=A.length+X.length)(hb:b=A.length+X.length+Y.length):
 Calls Tryz.prog 178 #[.slice (some ⟨blk,off,none⟩) n cap,.int .i64 a,.int .i64 m,.int .i64 b,.func (.func 81) #[] #[]] w fun e w'=>e = .returned (.tuple #[])∧SWK encP 3 w0 blk off (A++(Y++(X++B))).toArray w':=by
 have hbig:=R.big;have hn':A.length+(X.length+(Y.length+B.length))=n:=by simpa using hn
 have HN:Hid (A.length+(X.length+(Y.length+B.length))=n):=hn';obtain⟨i0,hi0⟩:∃i,i=X.length:=⟨_,rfl⟩;obtain⟨j0,hj0⟩:∃i,i=Y.length:=⟨_,rfl⟩;have e1:(m:Int)-(a:Int)=(i0:Int):=by omega
 have e2:(b:Int)-(m:Int)=(j0:Int):=by omega
 have hmi:i0≤m:=by omega
 have hmj:m+j0≤n:=by omega
 have hi00:0<i0:=by omega
 have hj00:0<j0:=by omega
 have S0:Aside (SWK encP 3 w0 blk off (A++(X++(Y++B))).toArray w):=S;have HI:Hid (i0=X.length):=hi0;have HJ:Hid (j0=Y.length):=hj0;have HM:Hid (m=A.length+X.length):=hm;clear S hn hn' hx hy ha hm hb hi0 hj0;go_enter Tryz.func178,Tryz.ntmps178;go_wp2
 go_loopg [10,11] (i0+j0) (fun g s10 s11 wr=>∃(i j:Nat) (A' X' Y' B':List Pr),s10 = .int .i64 i∧s11 = .int .i64 j∧i≤m∧m+j≤n∧0<i∧0<j∧i+j≤g∧Aside (SWK encP 3 w0 blk off (A'++(X'++(Y'++B'))).toArray wr)∧Hid (i=X'.length∧j=Y'.length∧m=A'.length+X'.length∧(A'++(X'++(Y'++B'))).length=n∧A'++(Y'++(X'++B'))=A++(Y++(X++B))))
 case atStart=>exact⟨i0,j0,A,X,Y,B,rfl,rfl,hmi,hmj,hi00,hj00,Nat.le_refl _,S0,HI.out,HJ.out,HM.out,by have:=HN.out;simpa using this,rfl⟩
 case round=>
  clear S0;obtain⟨i,j,A',X',Y',B',rfl,rfl,him,hjn,hi,hj,hg,S1,H⟩:=hrel;have emi:(m:Int)-(i:Int)=((m-i:Nat):Int):=by omega
  by_cases heq:i=j
  · subst heq
    (have hc:=fun(W:World) (SW:SWK encP 3 w0 blk off (A'++(X'++(Y'++B'))).toArray W)=>swapRange_any blk off n cap w0 W R A' X' [] Y' B' SW H.out.2.2.2.1 (by have:=H.out;omega) (m-i) m i (by have:=H.out;omega) (by have:=H.out;simp;omega) H.out.1);go_wp2_with (go_at_call 195;refine(hc _ S1.out).mono ?_;rintro e w' ⟨rfl,S2⟩)
    go_end0
    exact⟨rfl,H.out.2.2.2.2▸S2⟩
  · have hne:((i:Int)==(j:Int))=false:=beq_eq_false_iff_ne.2 (by omega)
    by_cases hgt:j<i
    · have hgtz:(j:Int)<(i:Int):=by omega
      obtain⟨X1,X2,hX,hX1⟩:=zD0 X' j (by have:=H.out;omega);(have eij:(i:Int)-(j:Int)=((i-j:Nat):Int):=by omega);(have hX2:Hid (X2.length=i-j):=by show _=_;have h:=H.out.1;rw[hX]at h;simp at h;omega);have HX1:Hid (X1.length=j):=hX1;have HXX:Hid (X'=X1++X2):=hX;(have hc:=fun(W:World) (SW:SWK encP 3 w0 blk off (A'++(X1++(X2++(Y'++B')))).toArray W)=>swapRange_any blk off n cap w0 W R A' X1 X2 Y' B' SW (by have:=H.out.2.2.2.1;rw[hX]at this;simpa using this) (by have:=H.out;omega) (m-i) m j (by have:=H.out;omega) (by have:=H.out;have:=hX2.out;omega) hX1.symm);have S1':Aside (SWK encP 3 w0 blk off (A'++(X1++(X2++(Y'++B')))).toArray wr):=by
       have:=S1.out;rw[hX,List.append_assoc]at this;exact this
      clear S1 hX hX1;go_wp2_with (go_at_call 195;refine(hc _ S1'.out).mono ?_;rintro e w' ⟨rfl,S2⟩);have S2':Aside (SWK encP 3 w0 blk off ((A'++Y')++(X2++(X1++B'))).toArray w'):=by
       have:=S2;rw[show A'++(Y'++(X2++(X1++B')))=(A'++Y')++(X2++(X1++B'))by simp]at this;exact this
      clear S2;go_roundg (i-j+j);case measure=>omega
      case rel=>
       refine⟨i-j,j,A'++Y',X2,X1,B',by rw[←eij],rfl,by omega,hjn,by omega,hj,Nat.le_refl _,S2',hX2.out.symm,HX1.out.symm,?_,?_,?_⟩
       · have:=H.out;have:=hX2.out;simp;omega
       · have h1:=H.out.2.2.2.1;have h2:=H.out;have h3:=hX2.out;have h4:=HX1.out;simp at h1 ⊢;omega
       · rw[←H.out.2.2.2.2,HXX.out];simp
    · have hgtz:¬(j:Int)<(i:Int):=by omega
      (have hlt:i<j:=by omega);obtain⟨Y1,Y2,hY,hY1⟩:=zD0 Y' (j-i) (by have:=H.out;omega);(have eji:(j:Int)-(i:Int)=((j-i:Nat):Int):=by omega);(have emj:(m:Int)+(j:Int)-(i:Int)=((m+j-i:Nat):Int):=by omega);(have hY2:Hid (Y2.length=i):=by show _=_;have h:=H.out.2.1;rw[hY]at h;simp at h;omega);have HY1:Hid (Y1.length=j-i):=hY1;have HYY:Hid (Y'=Y1++Y2):=hY;(have hc:=fun(W:World) (SW:SWK encP 3 w0 blk off (A'++(X'++(Y1++(Y2++B')))).toArray W)=>swapRange_any blk off n cap w0 W R A' X' Y1 Y2 B' SW (by have:=H.out.2.2.2.1;rw[hY]at this;simpa using this) (by have:=H.out;have:=hY2.out;omega) (m-i) (m+j-i) i (by have:=H.out;omega) (by have:=H.out;omega) H.out.1);have S1':Aside (SWK encP 3 w0 blk off (A'++(X'++(Y1++(Y2++B')))).toArray wr):=by
       have:=S1.out;rw[hY,List.append_assoc Y1]at this;exact this
      clear S1 hY hY1;go_wp2_with (go_at_call 195;refine(hc _ S1'.out).mono ?_;rintro e w' ⟨rfl,S2⟩);have S2':Aside (SWK encP 3 w0 blk off (A'++(Y2++(Y1++(X'++B')))).toArray w'):=S2;clear S2;go_roundg (i+(j-i));case measure=>omega
      case rel=>
       refine⟨i,j-i,A',Y2,Y1,X'++B',rfl,by rw[←eji],him,by omega,hi,by omega,Nat.le_refl _,S2',hY2.out.symm,HY1.out.symm,?_,?_,?_⟩
       · have:=H.out;have:=hY2.out;omega
       · have h1:=H.out.2.2.2.1;have h2:=H.out;have h3:=hY2.out;have h4:=HY1.out;simp at h1 ⊢;omega
       · rw[←H.out.2.2.2.2,HYY.out];simp
end Mq
end
section
namespace Mq
open Go.RowKit Go.Shelf Go.Lib Go.Sort Pm
set_option maxRecDepth 1000000
theorem lt_of_cf{x y:Pr}(h:zAa x.1 y.1=true):cfP x y<0:=by unfold cfP;rw[if_pos h];decide
theorem not_lt_of_cf{x y:Pr}(h:zAa x.1 y.1=false):¬cfP x y<0:=by
 unfold cfP;rw[h];cases zAa y.1 x.1<;>decide
theorem all_lt{R:List Pr}{u x:Pr}(h:Up zAa (R++[u]))(hu:zAa u.1 x.1=true):∀v∈R++[u],zAa v.1 x.1=true:=fun v hv=>
 up_lt lessB_sto (L:=[]) h (List.pairwise_singleton ..) hu v hv x (List.mem_singleton.2 rfl)
theorem all_ge{R:List Pr}{u x:Pr}(h:Up zAa (u::R))(hu:zAa u.1 x.1=false):∀v∈u::R,zAa v.1 x.1=false:=fun v hv=>
 up_le lessB_sto (L:=[]) (List.pairwise_singleton ..) h hu x (by simp) v hv
theorem all_le{R:List Pr}{u y:Pr}(h:Up zAa (R++[u]))(hu:zAa y.1 u.1=false):∀v∈R++[u],zAa y.1 v.1=false:=fun v hv=>
 up_le lessB_sto (R:=[]) h (List.pairwise_singleton ..) hu v hv y (List.mem_singleton.2 rfl)
theorem all_gt{R:List Pr}{u y:Pr}(h:Up zAa (u::R))(hu:zAa y.1 u.1=true):∀v∈u::R,zAa y.1 v.1=true:=fun v hv=>
 up_lt lessB_sto (R:=[]) (List.pairwise_singleton ..) h hu y (by simp) v hv
theorem up_left{a b:List Pr}(h:Up zAa (a++b)):Up zAa a:=(List.pairwise_append.1 h).1
theorem up_right{a b:List Pr}(h:Up zAa (a++b)):Up zAa b:=(List.pairwise_append.1 h).2.1
theorem part_at(P L S:List Pr)(i:Nat)(h1:P.length≤i)(h2:i≤P.length+L.length):∃L1 L2,L=L1++L2∧P.length+L1.length=i ∧
 (0<L1.length→∃a u,L1=a++[u]∧(P++(L++S)).toArray[i-1]! = u)∧(0<L2.length→∃u b,L2=u::b∧(P++(L++S)).toArray[i]! = u):=by
 obtain⟨L1,L2,rfl,hl⟩:=zD0 L (i-P.length) (by omega);refine⟨L1,L2,rfl,by omega,fun h=>?_,fun h=>?_⟩
 · obtain⟨a,u,rfl⟩:=zHe L1 h
   exact⟨a,u,rfl,Pm.get_at _ (P++a) (L2++S) u (i-1) (by simp) (by simp at hl ⊢;omega)⟩
 · cases L2 with
   |nil=>simp at h
   |cons u b=>exact⟨u,b,rfl,Pm.get_at _ (P++L1) (b++S) u i (by simp) (by simp at hl ⊢;omega)⟩
end Mq
end
