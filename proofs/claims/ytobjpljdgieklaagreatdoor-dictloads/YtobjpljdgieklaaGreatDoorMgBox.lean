import Derived.Test.YtobjpljdgieklaaGreatDoorJ45
import Derived.Test.YtobjpljdgieklaaGreatDoorJ43
import Derived.Test.YtobjpljdgieklaaGreatDoorJ46
namespace Go.Proofs.YtobjpljdgieklaaGreatDoor
open Go.RowKit Go.Shelf Go.Lib Nums Fm Pk Pm Fz Ed Lv
set_option maxRecDepth 100000
namespace Mg
structure ThreeAt(w:World)(g o:Nat)(x:M):Prop where
 c0:w.cell? ⟨g,o,none⟩=some (.string x.1)
 c1:w.cell? ⟨g,o+1,none⟩=some (.int .i64 x.2.1)
 c2:w.cell? ⟨g,o+2,none⟩=some (.int .i64 x.2.2)
theorem ThreeAt.below{w w':World}{g o:Nat}{x:M}(h:ThreeAt w g o x){B:Nat}(hg:g<B)(hb:Below B w w'):ThreeAt w' g o x:=
 ⟨(hb.cell (p:=⟨g,o,none⟩) hg).trans h.c0,(hb.cell (p:=⟨g,o+1,none⟩) hg).trans h.c1,(hb.cell (p:=⟨g,o+2,none⟩) hg).trans h.c2⟩
theorem ThreeAt.load{w:World}{g o:Nat}{x:M}(h:ThreeAt w g o x):Mq.loadP Tryz.prog (.pointer (some ⟨g,o,none⟩)) w = .ok (.agg #[.string x.1,.int .i64 x.2.1,.int .i64 x.2.2]) w:=Mq.loadP_at h.c0 h.c1 h.c2
theorem mrow_at{w:World}{ad:Option Addr}{n cap:Nat}{l:List M}(h:MRow w (.slice ad n cap) l)(h0:0<l.length):∃g off,ad=some ⟨g,off,none⟩∧g<w.heap.size∧∀k x,l[k]?=some x→ThreeAt w g (off+k*3) x:=by
 obtain⟨g,off,h1,h2,h3⟩:=MRow.at h h0;exact⟨g,off,h1,h2,fun k x hx=>⟨(h3 k x hx).1,(h3 k x hx).2.1,(h3 k x hx).2.2⟩⟩
theorem zUm{B:Nat}{w:World}{v:Value}{l:List M}(h:MOwn B w v l):MRow w v l:=GOwn.reads h
theorem zDd{B:Nat}{w w':World}{v:Value}{l:List M}(h:MOwn B w v l)(hb:Below w.heap.size w w'):MOwn B w' v l:=GOwn.below h hb
theorem own_mono{B B':Nat}{w:World}{v:Value}{l:List M}(h:MOwn B w v l)(hB:B'≤B):MOwn B' w v l:=GOwn.mono h hB
theorem zHs{B:Nat}{w:World}{v:Value}{l:List M}(h:MOwn B w v l):∃ad cap,v = .slice ad l.length cap:=by
 obtain⟨ad,cap,e,_⟩:=GOwn.shape h;exact⟨ad,cap,by rw[e,List.length_map]⟩
theorem zQe{B:Nat}{w:World}{v:Value}{l:List M}{x:M}(h:GOwn 74 3 B w v (l.map cellsM++[[.string x.1,.int .i64 x.2.1,.int .i64 x.2.2]])):MOwn B w v (l++[x]):=by
 show GOwn _ _ _ _ _ _;rw[List.map_append];exact h
theorem zId(x:M):zGr 3 [Value.string x.1,.int .i64 x.2.1,.int .i64 x.2.2]:=⟨rfl,by simp[Value.oneCell']⟩
theorem box_M(W:World)(x:M):∃W',Mq.storeP Tryz.prog (.pointer (some ⟨W.heap.size,0,none⟩)) (.agg #[.string x.1,.int .i64 x.2.1,.int .i64 x.2.2]) (W.alloc (.cells #[.string ⟨#[]⟩,.int .i64 0,.int .i64 0] 74)) = .ok () W'∧Below W.heap.size W W'∧ThreeAt W' W.heap.size 0 x∧W.heap.size<W'.heap.size:=by
 obtain⟨W',h1,h2,h3⟩:=zGe (W.alloc (.cells #[.string ⟨#[]⟩,.int .i64 0,.int .i64 0] 74)) W.heap.size _ _ _ (zXe W _) x W.heap.size (Nat.le_refl _);obtain⟨k0,k1,k2⟩:=zO6 h3;exact⟨W',h1,((Below.refl _ W).alloc (Nat.le_refl _) _).trans h2,⟨k0,k1,k2⟩,(Array.getElem?_eq_some_iff.1 h3).1⟩
theorem zSb(w1:World)(mb:Nat)(a b:Value)(hb:w1.heap[mb]?=some (.cells #[a,b] 64))(x:Pr)(B:Nat)(hB:B≤mb):
 ∃W,storeP Tryz.prog (.pointer (some ⟨mb,0,none⟩)) (valP x) w1 = .ok () W∧Below B w1 W∧W.heap[mb]?=some (.cells (encP x).toArray 64):=by
 refine⟨w1.setCells mb 0 (encP x),storeP_at (u:=a) (v:=b) (by simp[World.cell?,hb]) (by simp[World.cell?,hb]) (by simp[World.frozen?,hb]) (by simp[World.frozen?,hb]),?_,?_⟩
 · show Below B w1 ((w1.setCell ⟨mb,0,none⟩ _).setCell ⟨mb,1,none⟩ _)
   exact((Below.refl B w1).setCell (p:=⟨mb,0,none⟩) hB _).setCell (p:=⟨mb,1,none⟩) hB _
 · simp[encP,World.setCells,World.setCell,Array.getElem?_modify,hb]
theorem box_P(W:World)(x:Pr):∃W',storeP Tryz.prog (.pointer (some ⟨W.heap.size,0,none⟩)) (.agg #[.string x.1,.int .i64 x.2]) (W.alloc (.cells #[.string ⟨#[]⟩,.int .i64 0] 64)) = .ok () W'∧Below W.heap.size W W'∧TwoAt W' W.heap.size 0 x∧W.heap.size<W'.heap.size:=by
 obtain⟨W',h1,h2,h3⟩:=zSb (W.alloc (.cells #[.string ⟨#[]⟩,.int .i64 0] 64)) W.heap.size _ _ (zXe W _) x W.heap.size (Nat.le_refl _);refine⟨W',h1,((Below.refl _ W).alloc (Nat.le_refl _) _).trans h2,⟨by simp[World.cell?,h3,encP],by simp[World.cell?,h3,encP]⟩,(Array.getElem?_eq_some_iff.1 h3).1⟩
theorem zPu{w:World}{g o:Nat}{x:Pr}(h:TwoAt w g o x):loadP Tryz.prog (.pointer (some ⟨g,o,none⟩)) w = .ok (.agg #[.string x.1,.int .i64 x.2]) w:=h.load
