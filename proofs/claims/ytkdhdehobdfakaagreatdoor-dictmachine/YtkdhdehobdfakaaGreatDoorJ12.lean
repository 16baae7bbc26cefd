import Derived.Test.YtkdhdehobdfakaaGreatDoorJ10
set_option maxRecDepth 100000
set_option maxHeartbeats 8000000
namespace Go.Proofs.YtkdhdehobdfakaaGreatDoor
section
open Go.RowKit Nums Fm
theorem AOwn.at{B:Nat}{w:World}{v:Value}{l:List Arc}(h:AOwn B w v l)(h0:0<l.length):∃g cap,v = .slice (some ⟨g,0,none⟩) l.length cap∧g<w.heap.size∧l.length≤cap∧(∃cur,w.heap[g]?=some (.cells cur 89 (0,0))) ∧
 ∀(i:Nat) (a:Arc),l[i]?=some a→w.cell? ⟨g,i*3,none⟩=some (.int .i32 a.label)∧w.cell? ⟨g,i*3+1,none⟩=some (.int .i64 a.out)∧w.cell? ⟨g,i*3+2,none⟩=some (.int .i64 a.to):=by
 obtain⟨g,cap,rfl,hg,_,hc,hx⟩:=GOwn.cell h (by simpa using h0);refine⟨g,cap,by simp,hg,by simpa using hc,(GOwn.block h rfl).2,fun i a hi=>?_⟩;have e:(l.map zCv)[i]?=some (zCv a):=by rw[List.getElem?_map,hi];rfl
 exact⟨hx i 0 _ _ e rfl,hx i 1 _ _ e rfl,hx i 2 _ _ e rfl⟩
structure SL(g g2 lb n:Nat)(a:Arc)(w:World):Prop where
 c:w.cell? ⟨g,2,none⟩=some (.map (some g2))
 l0:w.cell? ⟨lb,0,none⟩=some (.int .i64 n)
 l1:w.cell? ⟨lb,1,none⟩=some (.int .i32 a.label)
 l2:w.cell? ⟨lb,2,none⟩=some (.int .i64 a.out)
 l3:w.cell? ⟨lb,3,none⟩=some (.int .i64 a.to)
theorem SL.facts{g g2 lb n:Nat}{a:Arc}{w:World}(h:SL g g2 lb n a w):w.cell? ⟨g,2,none⟩=some (.map (some g2))∧w.cell? ⟨lb,0,none⟩=some (.int .i64 n)∧w.cell? ⟨lb,1,none⟩=some (.int .i32 a.label)∧w.cell? ⟨lb,2,none⟩=some (.int .i64 a.out)∧w.cell? ⟨lb,3,none⟩=some (.int .i64 a.to):=⟨h.c,h.l0,h.l1,h.l2,h.l3⟩
theorem zQ9:Tryz.prog.underlying 94=some (.map 233 3):=Tryz.underlying94
structure LRound(A:Nat→Prop)(E g g1 g2:Nat)(vs:Value)(b:List St)(m1:List (SK×Nat))(m2:List (LK×Nat))(D:List (List Arc))(w wr:World)(l:List Arc)(j n:Nat):Prop where
 ex:∃m2' D',BAt A E wr g g1 g2 vs b m1 m2' D'∧m2'.length≤m2.length+j∧D<+:D'∧D'[n]?=some (l.take j)
 upd:Upd (fun k=>k=g2) w wr
theorem zRd(A:Nat→Prop)(E g g1 g2 B:Nat)(vs:Value)(b:List St)(m1:List (SK×Nat))(m2:List (LK×Nat))(D:List (List Arc))(w:World)(v:Value)(l:List Arc)(h:BAt A E w g g1 g2 vs b m1 m2 D)(hv:AOwn B w v l)(hok:∀a∈l,zYy a)(hl:m2.length+l.length<1099511627776):
 Calls Tryz.prog 108 #[.pointer (some ⟨g,0,none⟩),v] w fun e w'=>∃(n:Nat) (m2':List (LK×Nat)) (D':List (List Arc)),e = .returned (.int .i64 n)∧BAt A E w' g g1 g2 vs b m1 m2' D'∧m2'.length≤m2.length+l.length∧D<+:D'∧D'[n]?=some l∧Upd (fun k=>k=g2) w w':=by
 obtain⟨ad,cap,rfl,hcap⟩:=GOwn.shape hv;rw[List.length_map]at hv hcap ⊢;have HV:Hid (AOwn B w (.slice ad l.length cap) l):=hv;obtain⟨n,hn⟩:∃n,l.length=n:=⟨_,rfl⟩;have HN:Hid (l.length=n):=hn;rw[hn]at HV hl hcap;have HS:Hid (LRound A E g g1 g2 vs b m1 m2 D w w l 0 0):=⟨⟨m2,D,h,by omega,List.prefix_refl _,by rw[h.li.zero];rfl⟩,Upd.refl _ _⟩;have HOK:Hid (∀a∈l,zYy a):=hok;obtain⟨es,ck,hob⟩:=h.mp2.obj;have HOB:Hid (w.heap[g2]?=some (.map es ck)):=hob;have HG2:Hid (g2<w.heap.size):=h.lt.2.2;rw[hn];clear h hv hn hok hob;go_enter Tryz.func108,Tryz.ntmps108;go_wp2
 go_loopg [5,7,8,9,10,13] n (fun gm s5 _ _ _ _ s13 wr=>∃(j q:Nat),s13 = .int .i64 j∧s5 = .int .i64 q∧j≤n∧n-j≤gm∧Hid (LRound A E g g1 g2 vs b m1 m2 D w wr l j q))
 case atStart=>exact⟨0,0,rfl,rfl,Nat.zero_le _,by omega,HS⟩
 case round=>
  obtain⟨j,q,rfl,rfl,hj,hgm,HR⟩:=hrel;by_cases hlt:j<n
  · have hltz:(j:Int)<(n:Int):=by omega
    obtain⟨a,ha⟩:∃a,l[j]?=some a:=⟨l[j]'(by have:=HN.out;omega),List.getElem?_eq_getElem _⟩;obtain⟨m2',D',hB,hm2,hD,hq⟩:=HR.out.ex;(have hVr:AOwn B wr (.slice ad n cap) l:=AOwn.typed HV.out fun k cur hk=>HR.out.upd.block k (Array.getElem?_eq_some_iff.1 hk).1 fun e=>by subst e;rw[HOB.out]at hk;cases hk);obtain⟨ga,ca,ea,hga,_,_,hcell⟩:=hVr.at (by have:=HN.out;omega);simp only[Value.slice.injEq]at ea;obtain⟨rfl,hnl,rfl⟩:=ea;obtain⟨c0,c1,c2⟩:=hcell j a ha;obtain⟨o1,o2,o3⟩:=HOK.out a (List.mem_of_getElem? ha);(have hmn:m2'.length<1099511627776:=by omega);obtain⟨lit,hlit⟩:=key_L (q,a) (by have h1:=hB.li.len;have h2:=(List.getElem?_eq_some_iff.1 hq).1;constructor<;>simp only<;>omega) o1 o2 o3;have HLIT:Hid (keyOf Tryz.prog 233 (valL (q,a))=some lit):=hlit;have HBr:Hid (BAt A E wr g g1 g2 vs b m1 m2' D'):=hB;have HQ:Hid (D'[q]?=some (l.take j)):=hq;have HM2:Hid (m2'.length≤m2.length+j):=hm2;have HDD:Hid (D<+:D'):=hD;(have HTK:Hid (l.take (j+1)=l.take j++[a]):=by show _=_;rw[List.take_add_one,ha];rfl);clear hnl hcell ha hVr hB hq hm2 hD hlit o1 o2 o3;(go_upto_region 6 with fail);obtain⟨W,hW⟩:∃W,W=(wr.alloc (.cells #[.int .i32 a.label,.int .i64 a.out,.int .i64 a.to] 89)).alloc (.cells #[.int .i64 q,.int .i32 a.label,.int .i64 a.out,.int .i64 a.to] 233):=⟨_,rfl⟩;obtain⟨lb,hlb⟩:∃lb,lb=wr.heap.size+1:=⟨_,rfl⟩;rw[←hW,←hlb];(have HbW:Hid (Below wr.heap.size wr W):=by show Below _ _ _;rw[hW];exact((Below.refl _ wr).alloc (Nat.le_refl _) _).alloc (by simp) _);have HBW:Hid (BAt A E W g g1 g2 vs b m1 m2' D'):=HBr.out.below HbW.out;have hSL:SL g g2 lb q a W:=by
     (have hn:(wr.alloc (.cells #[.int .i32 a.label,.int .i64 a.out,.int .i64 a.to] 89)).heap.size=lb:=by rw[hlb];simp);(have hh:W.heap[lb]?=some (.cells #[.int .i64 q,.int .i32 a.label,.int .i64 a.out,.int .i64 a.to] 233):=by rw[hW,←hn];exact zAb _ _);exact⟨HBW.out.cells.2.2,by simp[World.cell?,hh],by simp[World.cell?,hh],by simp[World.cell?,hh],by simp[World.cell?,hh]⟩
    have HUW:Hid (Upd (fun k=>k=g2) w W):=HR.out.upd.trans (G:=fun k=>k=g2) (Upd.of_below HbW.out) (fun _ _ e=>e);have HSL:Hid (SL g g2 lb q a W):=hSL;obtain⟨s0,s1,s2,s3,s4⟩:=hSL.facts;clear hSL hW c0 c1 c2 hlb;by_cases hex:∃k,((q,a),k)∈m2'
    · obtain⟨k,hk⟩:=hex
      have hDk:D'[k]?=some (l.take (j+1)):=by rw[HTK.out];exact HBW.out.li.found hk HQ.out
      have hlook:∀nq,(Instr.lookup 94 (.map (some g2)) (.agg #[.int .i64 q,.int .i32 a.label,.int .i64 a.out,.int .i64 a.to]) true).run Tryz.prog (W.drewN nq) = .ok (.tuple #[.int .i64 k,.bool true]) (W.drewN nq):=fun nq=>
       (show KMapAt 233 valL (W.drewN nq) g2 m2' from HBW.out.mp2).look_old (x:=(q,a)) zWp zQ9 HLIT.out (fun y hy=>zKi hy) hk (fun k' hk'=>zHf HBW.out.li.nd (HBW.out.li.found hk' HQ.out) (by rw[←HTK.out];exact hDk))
      (have HN2:Hid (∀nq,LRound A E g g1 g2 vs b m1 m2 D w (W.drewN nq) l (j+1) k):=fun nq=>⟨⟨m2',D',HBW.out.below (belowN (Below.refl _ W) nq),by have:=HM2.out;omega,HDD.out,hDk⟩,HUW.out.trans (G:=fun k=>k=g2) (Upd.of_below (belowN (Below.refl _ W) nq)) (fun _ _ e=>e)⟩);clear hk hDk;go_quiet (fail);go_wp2;go_roundg (n-(j+1));(case measure=>omega);case rel=>exact⟨j+1,k,by go_num,rfl,by omega,Nat.le_refl _,HN2.out _⟩
    · have hnew:∀k,((q,a),k)∉m2':=fun k hk=>hex ⟨k,hk⟩
      have HNEW:Hid (∀k,((q,a),k)∉m2'):=hnew
      have hlook:∀nq,(Instr.lookup 94 (.map (some g2)) (.agg #[.int .i64 q,.int .i32 a.label,.int .i64 a.out,.int .i64 a.to]) true).run Tryz.prog (W.drewN nq) = .ok (.tuple #[.int .i64 0,.bool false]) (W.drewN nq):=fun nq=>
       (show KMapAt 233 valL (W.drewN nq) g2 m2' from HBW.out.mp2).look_new (x:=(q,a)) zWp zQ9 HLIT.out (fun y hy=>zKi hy) hnew
      clear hnew hex;go_quiet (fail);go_upto_region 8 with fail
      have hlen:∀ty,(Builtin.len_ #[94] ty #[.map (some g2)]).run Tryz.prog (W.drewN nq) = .ok (.int .i64 (m2'.length:Int)) (W.drewN nq):=fun ty=>
       (show KMapAt 233 valL (W.drewN nq) g2 m2' from HBW.out.mp2).len zQ9 ty
      obtain⟨mn,hmne⟩:∃mn,mn=m2'.length:=⟨_,rfl⟩;have HMN:Hid (mn=m2'.length):=hmne;rw[←hmne]at hlen hmn;clear hmne hlook;(go_upto_region 9 with fail);obtain⟨W3,hupd,hK3,t1,t2,t3,t4,t5⟩:=(show KMapAt 233 valL (W.drewN nq).drew g2 m2' from HBW.out.mp2).store (x:=(q,a)) zWp zQ9 HLIT.out (fun y hy=>zKi hy) HNEW.out (mn+1);have HUPD:Hid ((Instr.mapUpdate 94 (.map (some g2)) (.agg #[.int .i64 q,.int .i32 a.label,.int .i64 a.out,.int .i64 a.to]) (.int .i64 ((mn:Int)+1))).run Tryz.prog (W.drewN nq).drew = .ok () W3):=hupd;obtain⟨es3,ck3,hob3⟩:=HBW.out.mp2.obj;(have hnc:∀{k:Nat} {cur:Array Value} {T:TypeId} {z:Nat×Nat},W.heap[k]?=some (.cells cur T z)→k≠g2:=fun hk e=>by rw[e,hob3]at hk;cases hk);have hlb2:lb≠g2:=by
       intro e;have:=HSL.out.l0;rw[e]at this;simp[World.cell?,hob3]at this
      have hgg2:g≠g2:=hnc HBW.out.blk;have hS3:SL g g2 lb q a W3:=by
       have e1:=t5 g hgg2;have e2:=t5 lb hlb2;exact⟨(World.cell?_of_block (a:=⟨g,2,none⟩) e1).trans HSL.out.c,(World.cell?_of_block (a:=⟨lb,0,none⟩) e2).trans HSL.out.l0,(World.cell?_of_block (a:=⟨lb,1,none⟩) e2).trans HSL.out.l1,(World.cell?_of_block (a:=⟨lb,2,none⟩) e2).trans HSL.out.l2,(World.cell?_of_block (a:=⟨lb,3,none⟩) e2).trans HSL.out.l3⟩
      have HNX:Hid (LRound A E g g1 g2 vs b m1 m2 D w W3 l (j+1) (mn+1)):=by
       show LRound _ _ _ _ _ _ _ _ _ _ _ _ _ _ _;obtain⟨l1,l2⟩:=HBW.out.li.add HNEW.out HQ.out;rw[HMN.out]at hK3 ⊢;rw[←HTK.out]at l1 l2;exact⟨⟨_,_,HBW.out.lists (fun k _ hk=>t5 k hk) hK3 l1 (List.prefix_append _ _),by have:=HM2.out;simp;omega,HDD.out.trans (List.prefix_append _ _),l2⟩,HUW.out.trans (G:=fun k=>k=g2) ⟨t1,t2,t3,Nat.le_of_eq t4.symm,fun k _ hk=>t5 k hk⟩ (fun _ _ e=>e)⟩
      have hS0:SL g g2 lb q a (W.drewN nq).drew:=⟨HSL.out.c,HSL.out.l0,HSL.out.l1,HSL.out.l2,HSL.out.l3⟩;clear hupd hK3 t1 t2 t3 t4 t5 hob3 hnc hlb2 hgg2 s0 s1 s2 s3 s4 hlen;refine zAh (S:=SL g g2 lb q a) 7 rfl zAr hS0 (fun hHeld=>?_);refine tq4 SL.facts 0 37 1 38 2 39 3 40 ?_;simp only[sZa,sZb,sZc];refine tq2 SL.facts 4 41 5 42 ?_;simp only[sZa,sZb,sZc];refine zBy (i:=6) (w':=W3) (by kernel_rfl) rfl rfl (by rfl) ((zRv _ _ _ _ _ _ _ _ _ _ _).trans (congrArg (fun r=>Result.andThen r _) HUPD.out)) hS3 (fun _=>?_);refine wpAnyH_done (by kernel_rfl) ?_ _;go_wp2;go_roundg (n-(j+1));(case measure=>omega);case rel=>exact⟨j+1,mn+1,by go_num,by go_num,by omega,Nat.le_refl _,HNX⟩
  · have hltz:¬(j:Int)<(n:Int):=by omega
    obtain⟨m2',D',hB,hm2,hD,hq⟩:=HR.out.ex;have HF:Hid (BAt A E wr g g1 g2 vs b m1 m2' D'∧m2'.length≤m2.length+n∧D<+:D'∧D'[q]?=some l∧Upd (fun k=>k=g2) w wr):=⟨hB,by omega,hD,by rw[hq,List.take_of_length_le (by have:=HN.out;omega)],HR.out.upd⟩;clear hB hm2 hD hq;go_wp2;go_ret;exact⟨q,rfl,m2',D',HF.out⟩
end
section
open Go.RowKit Nums Fm
structure TriAt(w:World)(b:Nat)(x y z:Value):Prop where
 c0:w.cell? ⟨b,0,none⟩=some x
 c1:w.cell? ⟨b,1,none⟩=some y
 c2:w.cell? ⟨b,2,none⟩=some z
theorem TriAt.of{w:World}{b:Nat}{x y z:Value}{T:TypeId}{q:Nat×Nat}(h:w.heap[b]?=some (.cells #[x,y,z] T q)):TriAt w b x y z:=⟨by simp[World.cell?,h],by simp[World.cell?,h],by simp[World.cell?,h]⟩
theorem TriAt.same{w w':World}{b:Nat}{x y z:Value}(h:TriAt w b x y z)(e:w'.heap[b]?=w.heap[b]?):TriAt w' b x y z:=
 ⟨(World.cell?_of_block (a:=⟨b,0,none⟩) e).trans h.c0,(World.cell?_of_block (a:=⟨b,1,none⟩) e).trans h.c1,(World.cell?_of_block (a:=⟨b,2,none⟩) e).trans h.c2⟩
theorem TriAt.facts{w:World}{b:Nat}{x y z:Value}(h:TriAt w b x y z):w.cell? ⟨b,0,none⟩=some x∧w.cell? ⟨b,1,none⟩=some y∧w.cell? ⟨b,2,none⟩=some z:=⟨h.c0,h.c1,h.c2⟩
theorem zAc(w:World)(b o:Nat)(x:Value){k:Nat}(hk:k≠b):(w.setCell ⟨b,o,none⟩ x).heap[k]?=w.heap[k]?:=by
 show(w.heap.modify b _)[k]?=_;rw[Array.getElem?_modify,if_neg (Ne.symm hk)]
theorem zAt{w:World}{b o:Nat}{cur:Array Value}{T:TypeId}{q:Nat×Nat}(h:w.heap[b]?=some (.cells cur T q))(x:Value):(w.setCell ⟨b,o,none⟩ x).heap[b]?=some (.cells (cur.setIfInBounds o x) T q):=by
 show(w.heap.modify b _)[b]?=_;rw[Array.getElem?_modify,if_pos rfl,h];rfl
theorem zA4(w:World)(b o:Nat)(x:Value):(w.setCell ⟨b,o,none⟩ x).os=w.os∧(w.setCell ⟨b,o,none⟩ x).tape=w.tape∧(w.setCell ⟨b,o,none⟩ x).output=w.output∧(w.setCell ⟨b,o,none⟩ x).heap.size=w.heap.size:=by
 refine⟨rfl,rfl,rfl,?_⟩;show(w.heap.modify b _).size=_;rw[Array.size_modify]
def tri(w:World)(b:Nat)(x y z:Value):World:=((w.setCell ⟨b,0,none⟩ x).setCell ⟨b,1,none⟩ y).setCell ⟨b,2,none⟩ z
theorem tri_at{w:World}{b:Nat}{a0 a1 a2:Value}{T:TypeId}{q:Nat×Nat}(h:w.heap[b]?=some (.cells #[a0,a1,a2] T q))(x y z:Value):(tri w b x y z).heap[b]?=some (.cells #[x,y,z] T q):=by
 unfold tri;rw[zAt (zAt (zAt h x) y) z];rfl
theorem zUh(w:World)(b:Nat)(x y z:Value):Upd (fun k=>k=b) w (tri w b x y z):=by
 have h1:=zA4 w b 0 x;have h2:=zA4 (w.setCell ⟨b,0,none⟩ x) b 1 y;have h3:=zA4 ((w.setCell ⟨b,0,none⟩ x).setCell ⟨b,1,none⟩ y) b 2 z;refine⟨h3.1.trans (h2.1.trans h1.1),h3.2.1.trans (h2.2.1.trans h1.2.1),h3.2.2.1.trans (h2.2.2.1.trans h1.2.2.1),Nat.le_of_eq (h3.2.2.2.trans (h2.2.2.2.trans h1.2.2.2)).symm,fun k _ hk=>?_⟩;unfold tri;rw[zAc _ _ _ _ hk,zAc _ _ _ _ hk,zAc _ _ _ _ hk]
theorem zV4:Tryz.prog.underlying 93=some (.map 191 3):=Tryz.underlying93
section
variable {A:Nat→Prop} {E g g1 g2:Nat} {w w':World} {vs:Value} {b:List St} {m1:List (SK×Nat)} {m2:List (LK×Nat)} {D:List (List Arc)}
theorem BAt.push(h:BAt A E w g g1 g2 vs b m1 m2 D){xss:List (List Value)}(ho:GOwn 56 3 E w vs xss)(hxl:xss.length=b.length)(hxe:∀(i:Nat) (s:St),b[i]?=some s→∃va,xss[i]?=some [.bool s.final,.int .i64 s.out,va]∧AOwn E w va s.arcs∧∀k,va.ownBlock=some k→A k)
 {s:St} {ln:Nat} {va v':Value} (hs:∀k,k<w.heap.size→k≠g→k≠g1→vs.ownBlock≠some k→w'.heap[k]?=w.heap[k]?) (hg:w'.heap[g]?=some (.cells #[v',.map (some g1),.map (some g2)] 96 (0,0)))
 (hm:KMapAt 191 valK w' g1 (m1++[((s.final,s.out,ln),b.length)])) (ho':GOwn 56 3 E w' v' (xss++[[.bool s.final,.int .i64 s.out,va]])) (ha:AOwn E w' va s.arcs) (hl:D[ln]?=some s.arcs) (hnew:∀k,((s.final,s.out,ln),k)∉m1):
 BAt (fun k=>A k∨va.ownBlock=some k) E w' g g1 g2 v' (b++[s]) (m1++[((s.final,s.out,ln),b.length)]) m2 D:=by
 have hlt:=h.lt;obtain⟨es1,ck1,hob1⟩:=h.mp1.obj;obtain⟨es2,ck2,hob2⟩:=h.mp2.obj;have hvs2:vs.ownBlock≠some g2:=fun e=>by obtain⟨_,cur,hc⟩:=ho.block e;rw[hob2]at hc;cases hc
 have hgg2:g2≠g:=fun e=>by have:=h.blk;rw[←e,hob2]at this;cases this
 have harc:∀(k:Nat) (cur:Array Value),w.heap[k]?=some (Obj.cells cur 89 (0,0))→w'.heap[k]?=w.heap[k]?:=fun k cur hk=>by
  refine hs k (Array.getElem?_eq_some_iff.1 hk).1 (fun e=>?_) (fun e=>?_) (fun e=>?_)
  · subst e
    rw[h.blk]at hk;simp only[Option.some.injEq,Obj.cells.injEq]at hk;exact absurd hk.2.1 (by decide)
  · subst e;rw[hob1]at hk;cases hk
  · obtain⟨_,cur',hc⟩:=ho.block e
    rw[hk]at hc;simp only[Option.some.injEq,Obj.cells.injEq]at hc;exact absurd hc.2.1 (by decide)
 refine⟨hg,⟨_,ho',by simp[hxl],fun i t hi=>?_⟩,hm,h.mp2.same (hs g2 hlt.2.2 hgg2 (Ne.symm h.ne) hvs2),h.li,(h.ni.add h.li.nd hnew hl).2,h.ne,h.lo⟩;by_cases hil:i<b.length
 · rw[List.getElem?_append_left hil]at hi
   obtain⟨va,h1,h2,h3⟩:=hxe i t hi;exact⟨va,by rw[List.getElem?_append_left (by omega)];exact h1,AOwn.typed h2 harc,fun k hk => .inl (h3 k hk)⟩
 · rw[List.getElem?_append_right (by omega)]at hi
   cases hi0:i-b.length with
   |zero=>
    rw[hi0]at hi;simp only[List.getElem?_cons_zero,Option.some.injEq]at hi;subst hi;exact⟨va,by rw[List.getElem?_append_right (by omega),hxl,hi0];rfl,ha,fun k hk => .inr hk⟩
   |succ j=>rw[hi0]at hi;simp at hi
end
structure NumSays(A:Nat→Prop)(E g g1 g2:Nat)(vs:Value)(b:List St)(m2:List (LK×Nat))(s:St)(va:Value)(w w':World)(k:Nat):Prop where
 ex:∃vs' m1' m2' D',BAt (fun k=>A k∨va.ownBlock=some k) E w' g g1 g2 vs' (zDg b s).1 m1' m2' D'∧m2'.length≤m2.length+s.arcs.length∧Upd (fpB g g1 g2 vs) w w'∧(vs'.ownBlock=vs.ownBlock∨∃j,vs'.ownBlock=some j∧w.heap.size≤j)
 num:(zDg b s).2=k
structure S5(g g1 kb:Nat)(x y z:Value)(w:World):Prop where
 c:w.cell? ⟨g,1,none⟩=some (.map (some g1))
 k:TriAt w kb x y z
theorem S5.facts{g g1 kb:Nat}{x y z:Value}{w:World}(h:S5 g g1 kb x y z w):w.cell? ⟨g,1,none⟩=some (.map (some g1))∧w.cell? ⟨kb,0,none⟩=some x∧w.cell? ⟨kb,1,none⟩=some y∧w.cell? ⟨kb,2,none⟩=some z:=⟨h.c,h.k.c0,h.k.c1,h.k.c2⟩
structure S6(g bs:Nat)(vs x y z:Value)(w:World):Prop where
 c:w.cell? ⟨g,0,none⟩=some vs
 k:TriAt w bs x y z
theorem S6.facts{g bs:Nat}{vs x y z:Value}{w:World}(h:S6 g bs vs x y z w):w.cell? ⟨g,0,none⟩=some vs∧w.cell? ⟨bs,0,none⟩=some x∧w.cell? ⟨bs,1,none⟩=some y∧w.cell? ⟨bs,2,none⟩=some z:=⟨h.c,h.k.c0,h.k.c1,h.k.c2⟩
structure NumMid(A:Nat→Prop)(E g g1 g2:Nat)(vs:Value)(b:List St)(m1:List (SK×Nat))(m2:List (LK×Nat))(s:St)(va:Value)(w W:World)(bs kb ln:Nat)(m2':List (LK×Nat))(D':List (List Arc)):Prop where
 at':BAt A E W g g1 g2 vs b m1 m2' D'
 len:m2'.length≤m2.length+s.arcs.length
 lnD:D'[ln]?=some s.arcs
 key:W.heap[kb]?=some (.cells #[.bool s.final,.int .i64 s.out,.int .i64 ln] 191)
 box:W.heap[bs]?=some (.cells #[.bool s.final,.int .i64 s.out,va] 56)
 upd:Upd (fun k=>k=g2) w W
 bs0:bs=w.heap.size
 kb0:w.heap.size≤kb
 arcs:AOwn E W va s.arcs
end
