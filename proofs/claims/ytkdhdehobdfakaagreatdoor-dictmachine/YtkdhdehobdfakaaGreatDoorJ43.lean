import Derived.Test.YtkdhdehobdfakaaGreatDoorFzAll
import Derived.Test.YtkdhdehobdfakaaGreatDoorJ36
set_option maxRecDepth 100000
set_option maxHeartbeats 8000000
namespace Go.Proofs.YtkdhdehobdfakaaGreatDoor
section
open Go.RowKit Go.Shelf Go.Lib Nums Fm Pk Pm Fz Ed Lv
def MRow(w:World)(v:Value)(l:List Mt):Prop:=GRow w.heap.size 3 w v (l.map cellsM)
theorem MRow.below{w w':World}{v:Value}{l:List Mt}(h:MRow w v l)(hb:Below w.heap.size w w'):MRow w' v l:=(GRow.below h hb).mono hb.size
theorem MRow.form{w:World}{v:Value}{l:List Mt}(h:MRow w v l):∃ad cap,v = .slice ad l.length cap:=by
 obtain⟨ad,cap,e⟩:=GRow.shape h;exact⟨ad,cap,by rw[e,List.length_map]⟩
theorem MRow.at{w:World}{ad:Option Addr}{n cap:Nat}{l:List Mt}(h:MRow w (.slice ad n cap) l)(h0:0<l.length):∃g off,ad=some ⟨g,off,none⟩∧g<w.heap.size∧∀k x,l[k]?=some x→w.cell? ⟨g,off+k*3,none⟩=some (.string x.1)∧w.cell? ⟨g,off+k*3+1,none⟩=some (.int .i64 x.2.1)∧w.cell? ⟨g,off+k*3+2,none⟩=some (.int .i64 x.2.2):=by
 obtain⟨ad',cap',hv,hc⟩:=h.ex;simp only[Value.slice.injEq]at hv;obtain⟨g,off,rfl,hg,hx⟩:=hc (by rw[List.length_map];omega);refine⟨g,off,hv.1,hg,fun k x hk=>?_⟩;have e:(l.map cellsM)[k]?=some (cellsM x):=by rw[List.getElem?_map,hk];rfl
 exact⟨hx k 0 _ _ e rfl,hx k 1 _ _ e rfl,hx k 2 _ _ e rfl⟩
namespace Mg
structure ThreeAt(w:World)(g o:Nat)(x:M):Prop where
 c0:w.cell? ⟨g,o,none⟩=some (.string x.1)
 c1:w.cell? ⟨g,o+1,none⟩=some (.int .i64 x.2.1)
 c2:w.cell? ⟨g,o+2,none⟩=some (.int .i64 x.2.2)
theorem ThreeAt.below{w w':World}{g o:Nat}{x:M}(h:ThreeAt w g o x){B:Nat}(hg:g<B)(hb:Below B w w'):ThreeAt w' g o x:=
 ⟨(hb.cell (p:=⟨g,o,none⟩) hg).trans h.c0,(hb.cell (p:=⟨g,o+1,none⟩) hg).trans h.c1,(hb.cell (p:=⟨g,o+2,none⟩) hg).trans h.c2⟩
theorem ThreeAt.load{w:World}{g o:Nat}{x:M}(h:ThreeAt w g o x):Mq.loadP Tryz.prog (.pointer (some ⟨g,o,none⟩)) w = .ok (.agg #[.string x.1,.int .i64 x.2.1,.int .i64 x.2.2]) w:=Mq.loadP_at h.c0 h.c1 h.c2
theorem mrow_at{w:World}{ad:Option Addr}{n cap:Nat}{l:List M}(h:MRow w (.slice ad n cap) l)(h0:0<l.length):∃g off,ad=some ⟨g,off,none⟩∧g<w.heap.size∧∀k x,l[k]?=some x→ThreeAt w g (off+k*3) x:=by
 obtain⟨g,off,h1,h2,h3⟩:=MRow.at h h0;exact⟨g,off,h1,h2,fun k x hx=>⟨(h3 k x hx).1,(h3 k x hx).2.1,(h3 k x hx).2.2⟩⟩
theorem own_row{B:Nat}{w:World}{v:Value}{l:List M}(h:MOwn B w v l):MRow w v l:=GOwn.reads h
theorem zDf{B:Nat}{w w':World}{v:Value}{l:List M}(h:MOwn B w v l)(hb:Below w.heap.size w w'):MOwn B w' v l:=GOwn.below h hb
theorem own_mono{B B':Nat}{w:World}{v:Value}{l:List M}(h:MOwn B w v l)(hB:B'≤B):MOwn B' w v l:=GOwn.mono h hB
theorem zH2{B:Nat}{w:World}{v:Value}{l:List M}(h:MOwn B w v l):∃ad cap,v = .slice ad l.length cap:=by
 obtain⟨ad,cap,e,_⟩:=GOwn.shape h;exact⟨ad,cap,by rw[e,List.length_map]⟩
theorem zQ2{B:Nat}{w:World}{v:Value}{l:List M}{x:M}(h:GOwn 52 3 B w v (l.map cellsM++[[.string x.1,.int .i64 x.2.1,.int .i64 x.2.2]])):MOwn B w v (l++[x]):=by
 show GOwn _ _ _ _ _ _;rw[List.map_append];exact h
theorem zIr(x:M):zG1 3 [Value.string x.1,.int .i64 x.2.1,.int .i64 x.2.2]:=⟨rfl,by simp[Value.oneCell']⟩
theorem box_M(W:World)(x:M):∃W',Mq.storeP Tryz.prog (.pointer (some ⟨W.heap.size,0,none⟩)) (.agg #[.string x.1,.int .i64 x.2.1,.int .i64 x.2.2]) (W.alloc (.cells #[.string ⟨#[]⟩,.int .i64 0,.int .i64 0] 52)) = .ok () W'∧Below W.heap.size W W'∧ThreeAt W' W.heap.size 0 x∧W.heap.size<W'.heap.size:=by
 obtain⟨W',h1,h2,h3⟩:=zGo (W.alloc (.cells #[.string ⟨#[]⟩,.int .i64 0,.int .i64 0] 52)) W.heap.size _ _ _ (zYl W _) x W.heap.size (Nat.le_refl _);obtain⟨k0,k1,k2⟩:=zPu h3;exact⟨W',h1,((Below.refl _ W).alloc (Nat.le_refl _) _).trans h2,⟨k0,k1,k2⟩,(Array.getElem?_eq_some_iff.1 h3).1⟩
theorem zS4(w1:World)(mb:Nat)(a b:Value)(hb:w1.heap[mb]?=some (.cells #[a,b] 75))(x:Pr)(B:Nat)(hB:B≤mb):
 ∃W,storeP Tryz.prog (.pointer (some ⟨mb,0,none⟩)) (valP x) w1 = .ok () W∧Below B w1 W∧W.heap[mb]?=some (.cells (encP x).toArray 75):=by
 refine⟨w1.setCells mb 0 (encP x),storeP_at (u:=a) (v:=b) (by simp[World.cell?,hb]) (by simp[World.cell?,hb]) (by simp[World.frozen?,hb]) (by simp[World.frozen?,hb]),?_,?_⟩
 · show Below B w1 ((w1.setCell ⟨mb,0,none⟩ _).setCell ⟨mb,1,none⟩ _)
   exact((Below.refl B w1).setCell (p:=⟨mb,0,none⟩) hB _).setCell (p:=⟨mb,1,none⟩) hB _
 · simp[encP,World.setCells,World.setCell,Array.getElem?_modify,hb]
theorem box_P(W:World)(x:Pr):∃W',storeP Tryz.prog (.pointer (some ⟨W.heap.size,0,none⟩)) (.agg #[.string x.1,.int .i64 x.2]) (W.alloc (.cells #[.string ⟨#[]⟩,.int .i64 0] 75)) = .ok () W'∧Below W.heap.size W W'∧TwoAt W' W.heap.size 0 x∧W.heap.size<W'.heap.size:=by
 obtain⟨W',h1,h2,h3⟩:=zS4 (W.alloc (.cells #[.string ⟨#[]⟩,.int .i64 0] 75)) W.heap.size _ _ (zYl W _) x W.heap.size (Nat.le_refl _);refine⟨W',h1,((Below.refl _ W).alloc (Nat.le_refl _) _).trans h2,⟨by simp[World.cell?,h3,encP],by simp[World.cell?,h3,encP]⟩,(Array.getElem?_eq_some_iff.1 h3).1⟩
theorem zQh{w:World}{g o:Nat}{x:Pr}(h:TwoAt w g o x):loadP Tryz.prog (.pointer (some ⟨g,o,none⟩)) w = .ok (.agg #[.string x.1,.int .i64 x.2]) w:=h.load
end Mg
theorem zS6(xs:List Int)(d:Nat)(l:List Pr):(zDh xs d l).length≤l.length:=List.length_filterMap_le _ _
theorem ds_word{x:Pr}{word:ByteArray}{xs:List Int}(hw:zAq x.1.data.toList=true)(hx:rs word.data.toList=some xs)(hl:xs.length≤24):dsE x.1.data.toList word.data.toList=some (lv (zCx x).1 xs):=by
 obtain⟨ys,h1,_,h3,_⟩:=zA3 hw;have e:(zCx x).1=ys:=by rw[zCx,h1];rfl
 rw[e];exact zRx (zKv h1 (by omega)) (zKv hx (by omega))
theorem lvx(n:Nat)(a b:List Int)(c:Nat)(h:a.length+b.length≤n)(e:lvF n a b=c):lv a b=c:=by rw[←zRc n a b h,e]
end
