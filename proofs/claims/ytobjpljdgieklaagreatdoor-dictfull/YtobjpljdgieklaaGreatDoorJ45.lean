import Derived.Test.YtobjpljdgieklaaGreatDoorJ44
import Derived.Test.YtobjpljdgieklaaGreatDoorJ10
import Derived.Test.YtobjpljdgieklaaGreatDoorJ5
import Derived.Test.YtobjpljdgieklaaGreatDoorJ43
import Derived.Test.YtobjpljdgieklaaGreatDoorJ7
set_option maxRecDepth 100000
namespace Go.Proofs.YtobjpljdgieklaaGreatDoor
section
open Go.RowKit Go.Shelf Go.Lib Go.Sort Pm
namespace Mg
abbrev M:=Mq.Pr
def MOwn(B:Nat)(w:World)(v:Value)(l:List M):Prop:=GOwn 74 3 B w v (l.map cellsM)
theorem zIx{w:World}{blk off q:Nat}{d:Array M}{os:Array Obj}{k:Nat}(hk:k<w.heap.size)(hne:k≠blk):(sortWorldK Mq.encP 3 w blk off q d os).heap[k]?=w.heap[k]?:=by
 unfold sortWorldK grow putRowK putRow mapBlock;simp only;rw[Array.getElem?_append_left (by simpa[Sort.ahead]using hk),Array.getElem?_modify,if_neg (fun e=>hne e.symm)];rfl
theorem zKo{w:World}{blk off q:Nat}{d:Array M}{os:Array Obj}{cur:Array Value}{T:TypeId}(h:w.heap[blk]?=some (.cells cur T (0,0))):∃cur',cur'.size=cur.size∧(sortWorldK Mq.encP 3 w blk off q d os).heap[blk]?=some (.cells cur' T (0,0)):=by
 have hk:=(Array.getElem?_eq_some_iff.1 h).1;unfold sortWorldK grow putRowK putRow mapBlock;simp only;rw[Array.getElem?_append_left (by simpa[Sort.ahead]using hk),Array.getElem?_modify,if_pos rfl];show ∃cur',_∧Option.map _ w.heap[blk]?=_;rw[h];exact⟨_,by simp[putCells],rfl⟩
theorem belowSW{w w':World}{blk off:Nat}{d:Array M}{B:Nat}(h:SWK Mq.encP 3 w blk off d w')(hB:B≤blk)(hBw:B≤w.heap.size):Below B w w':=by
 have hs:=h.le;obtain⟨q,os,rfl⟩:=h;exact⟨rfl,rfl,rfl,hs,fun k hk=>zIx (by omega) (by omega)⟩
theorem cells3(x:M)(j:Nat)(hj:j<3):∃u,(cellsM x)[j]?=some u∧(Mq.encP x)[j]?=some u:=by
 rcases(by omega:j=0∨j=1∨j=2)with rfl|rfl|rfl<;>exact⟨_,rfl,rfl⟩
theorem zUm{B:Nat}{w:World}{g cap:Nat}{l:List M}(h:MOwn B w (.slice (some ⟨g,0,none⟩) l.length cap) l)(hl:l.length<1125899906842624):Mq.RowP w g 0 l.length∧SWK Mq.encP 3 w g 0 l.toArray w∧B≤g:=by
 have hcell:=fun h0=>GOwn.cell h h0
 obtain⟨_,_,⟨e,_⟩|⟨g',cap',cur,e,h1,hh,h3,h4,h5,h6⟩⟩:=h
 · cases e
 · simp only[Value.slice.injEq,Option.some.injEq,Addr.mk.injEq]at e
   obtain⟨⟨rfl,_⟩,_,rfl⟩:=e;have hsz:=(Array.getElem?_eq_some_iff.1 hh).1;(have fz:∀o,w.frozen? ⟨g,o,none⟩=false:=fun o=>by simp[World.frozen?,hh]);have H:HoldsK Mq.encP 3 w g 0 l.toArray:=by
    intro t ht;(have ht2:t<l.length*3:=by simpa using ht);obtain⟨i,j,rfl,hj⟩:∃i j,t=i*3+j∧j<3:=⟨t/3,t%3,by omega,by omega⟩;(have hi:i<l.length:=by omega);obtain⟨g2,cap2,e2,_,_,_,hc⟩:=hcell (by rw[List.length_map];omega);simp only[Value.slice.injEq,Option.some.injEq,Addr.mk.injEq]at e2;obtain⟨⟨rfl,_⟩,_,rfl⟩:=e2;refine⟨?_,fz _⟩;rw[get_flatK _ _ _ _ (by simpa using ht2),show(i*3+j)/3=i by omega,show(i*3+j)%3=j by omega];(have el:l.toArray[i]! = l[i]:=by simp[hi]);rw[el];obtain⟨u,hu1,hu2⟩:=cells3 l[i] j hj;rw[Nat.zero_add,hc i j (cellsM l[i]) u (by simp[hi]) hu1];(have hd:(Mq.encP l[i])[j]! = u:=by simp[hu2]);rw[hd];rfl
   exact⟨⟨⟨l.toArray,by simp,⟨Mq.encP_k,Mq.encP_one,H,hsz⟩⟩,by omega⟩,SWK.start H,h1⟩
theorem zCt(l:List M):(l.map cellsM).flatten.length=l.length*3:=by
 induction l with
 |nil=>rfl
 |cons x r ih=>rw[List.map_cons,List.flatten_cons,List.length_append,ih,List.length_cons];show 3+_=_;omega
theorem zR7{B:Nat}{w w':World}{g cap:Nat}{l l':List M}(h:MOwn B w (.slice (some ⟨g,0,none⟩) l.length cap) l)(hl:l.length<1125899906842624)(hS:SWK Mq.encP 3 w g 0 l'.toArray w')(he:l'.length=l.length):MOwn B w' (.slice (some ⟨g,0,none⟩) l'.length cap) l':=by
 obtain⟨R,_,hB⟩:=zUm h hl;have H:=R.holds hS (by simpa using he);obtain⟨_,_,⟨e,_⟩|⟨g',cap',cur,e,h1,hh,h3,h4,h5,h6⟩⟩:=h
 · cases e
 · simp only[Value.slice.injEq,Option.some.injEq,Addr.mk.injEq]at e
   obtain⟨⟨rfl,_⟩,_,rfl⟩:=e;obtain⟨qq,os,rfl⟩:=hS;obtain⟨cur',k1,k2⟩:=zKo (off:=0) (q:=qq) (d:=l'.toArray) (os:=os) hh;rw[List.length_map]at h3;refine⟨fun x hx=>?_,by rw[zCt,List.length_map],.inr ⟨g,cap,cur',by rw[List.length_map],h1,k2,by rw[List.length_map];omega,h4,by omega,?_⟩⟩
   · obtain⟨y,_,rfl⟩:=List.mem_map.1 hx
     exact cellsM_ok y
   · refine List.ext_getElem (by rw[List.length_take,zCt,List.length_map];simp;omega) fun t p q=>?_
     rw[zCt]at q;obtain⟨i,j,rfl,hj⟩:∃i j,t=i*3+j∧j<3:=⟨t/3,t%3,by omega,by omega⟩;(have hi:i<l'.length:=by omega);obtain⟨u,hu1,hu2⟩:=cells3 l'[i] j hj;have e1:=zHi (l'.map cellsM) (k:=3) (fun x hx=>by obtain⟨y,_,rfl⟩:=List.mem_map.1 hx;rfl) i j (cellsM l'[i]) u (by simp[hi]) hu1;have e2:(sortWorldK Mq.encP 3 w g 0 qq l'.toArray os).cell? ⟨g,0+(i*3+j),none⟩=some u:=by
      (have el:l'.toArray[i]! = l'[i]:=by simp[hi]);rcases(by omega:j=0∨j=1∨j=2)with rfl|rfl|rfl
      · have:=(Mq.cellP0 H (i:=i) (by simpa using hi)).1
        rw[el]at this;rw[←Option.some.inj (show some _=some u from hu2)];exact this
      · have:=(Mq.cellP1 H (i:=i) (by simpa using hi)).1
        rw[el]at this;rw[←Option.some.inj (show some _=some u from hu2),←Nat.add_assoc];exact this
      · have:=(Mq.cellP2 H (i:=i) (by simpa using hi)).1
        rw[el]at this;rw[←Option.some.inj (show some _=some u from hu2),←Nat.add_assoc];exact this
     have e3:(cur'.toList.take ((l'.map cellsM).length*3))[i*3+j]?=some u:=by
      rw[List.getElem?_take,if_pos (by rw[List.length_map];omega)];simp only[World.cell?,k2,Nat.zero_add]at e2;simpa using e2
     rw[←e1]at e3;rw[List.getElem?_eq_getElem p,List.getElem?_eq_getElem (by rw[zCt];exact q)]at e3;exact Option.some.inj e3
set_option maxHeartbeats 1000000 in
theorem zI3(w:World):Calls Tryz.prog 158 #[.slice none 0 0,.int .i64 0,.int .i64 0,.func (.func 81) #[] #[]] w fun e w'=>e = .returned (.tuple #[])∧w'=w:=by
 go_enter Tryz.func158,Tryz.ntmps158;go_wp2;refine wp_loop_rounds 1 ?_;rw[rounds_succ];go_wp2
 go_end0
 exact⟨rfl,rfl⟩
set_option maxHeartbeats 1000000 in
theorem zOe(w:World):Calls Tryz.prog 123 #[.slice none 0 0,.int .i64 0,.func (.func 81) #[] #[]] w fun e w'=>e = .returned (.tuple #[])∧w'=w:=by
 go_enter Tryz.func123,Tryz.ntmps123;go_wp2;refine wp_loop_rounds 1 ?_;rw[rounds_succ];go_wp2_with (go_at_call 158;refine(zI3 _).mono ?_;rintro e w2 ⟨rfl,rfl⟩);refine wp_loop_rounds 1 ?_;rw[rounds_succ];go_wp2
 go_end0
 exact⟨rfl,rfl⟩
set_option maxHeartbeats 1000000 in
theorem zHx(w:World):Calls Tryz.prog 80 #[.slice none 0 0,.func (.func 81) #[] #[]] w fun e w'=>e = .returned (.tuple #[])∧w'=w:=by
 go_enter Tryz.func80,Tryz.ntmps80;go_wp2_with (go_at_call 123;refine(zOe _).mono ?_;rintro e w2 ⟨rfl,rfl⟩)
 go_end0
 exact⟨rfl,rfl⟩
theorem zUd{B:Nat}{w:World}{v:Value}{l:List M}(h:MOwn B w v l)(hl:l.length<1125899906842624)(hB:B≤w.heap.size):
 Calls Tryz.prog 80 #[v,.func (.func 81) #[] #[]] w fun e w'=>e = .returned (.tuple #[])∧MOwn B w' v (zFw zAa l)∧Below B w w':=by
 have h':=h;obtain⟨_,_,⟨e,h0⟩|⟨g,cap,cur,rfl,h1,hh,h3,h4,h5,h6⟩⟩:=h
 · have hl0:l=[]:=by simpa using h0
   subst hl0;subst e;refine(zHx w).mono ?_;rintro e w' ⟨rfl,rfl⟩;exact⟨rfl,h',Below.refl _ _⟩
 · rw[List.length_map]at h'
   obtain⟨R,S,hBg⟩:=zUm h' hl;rw[List.length_map];refine(Mq.sortStable_any g 0 l.length cap w w R hl l S rfl).mono ?_;rintro e w' ⟨rfl,l',hs,hS⟩;have hlen:=hs.len;have ho:=zR7 h' hl hS hlen;rw[hlen]at ho;rw[zJg lessB_sto (zMx lessB_sto l) hs];exact⟨rfl,ho,belowSW hS hBg hB⟩
end Mg
end
section
open Go.RowKit Go.Shelf Go.Lib Nums Fm Pk Pm Fz Ed Lv
namespace Mg
structure ThreeAt(w:World)(g o:Nat)(x:M):Prop where
 c0:w.cell? ⟨g,o,none⟩=some (.string x.1)
 c1:w.cell? ⟨g,o+1,none⟩=some (.int .i64 x.2.1)
 c2:w.cell? ⟨g,o+2,none⟩=some (.int .i64 x.2.2)
theorem ThreeAt.below{w w':World}{g o:Nat}{x:M}(h:ThreeAt w g o x){B:Nat}(hg:g<B)(hb:Below B w w'):ThreeAt w' g o x:=
 ⟨(hb.cell (p:=⟨g,o,none⟩) hg).trans h.c0,(hb.cell (p:=⟨g,o+1,none⟩) hg).trans h.c1,(hb.cell (p:=⟨g,o+2,none⟩) hg).trans h.c2⟩
theorem ThreeAt.load{w:World}{g o:Nat}{x:M}(h:ThreeAt w g o x):Mq.loadP Tryz.prog (.pointer (some ⟨g,o,none⟩)) w = .ok (.agg #[.string x.1,.int .i64 x.2.1,.int .i64 x.2.2]) w:=Mq.loadP_at h.c0 h.c1 h.c2
theorem mrow_at{w:World}{ad:Option Addr}{n cap:Nat}{l:List M}(h:MRow w (.slice ad n cap) l)(h0:0<l.length):∃g off,ad=some ⟨g,off,none⟩∧g<w.heap.size∧∀k x,l[k]?=some x→ThreeAt w g (off+k*3) x:=by
 obtain⟨g,off,h1,h2,h3⟩:=MRow.at h h0;exact⟨g,off,h1,h2,fun k x hx=>⟨(h3 k x hx).1,(h3 k x hx).2.1,(h3 k x hx).2.2⟩⟩
theorem zU5{B:Nat}{w:World}{v:Value}{l:List M}(h:MOwn B w v l):MRow w v l:=GOwn.reads h
theorem zDb{B:Nat}{w w':World}{v:Value}{l:List M}(h:MOwn B w v l)(hb:Below w.heap.size w w'):MOwn B w' v l:=GOwn.below h hb
theorem own_mono{B B':Nat}{w:World}{v:Value}{l:List M}(h:MOwn B w v l)(hB:B'≤B):MOwn B' w v l:=GOwn.mono h hB
theorem zH2{B:Nat}{w:World}{v:Value}{l:List M}(h:MOwn B w v l):∃ad cap,v = .slice ad l.length cap:=by
 obtain⟨ad,cap,e,_⟩:=GOwn.shape h;exact⟨ad,cap,by rw[e,List.length_map]⟩
theorem zQn{B:Nat}{w:World}{v:Value}{l:List M}{x:M}(h:GOwn 74 3 B w v (l.map cellsM++[[.string x.1,.int .i64 x.2.1,.int .i64 x.2.2]])):MOwn B w v (l++[x]):=by
 show GOwn _ _ _ _ _ _;rw[List.map_append];exact h
theorem zIn(x:M):zG7 3 [Value.string x.1,.int .i64 x.2.1,.int .i64 x.2.2]:=⟨rfl,by simp[Value.oneCell']⟩
theorem box_M(W:World)(x:M):∃W',Mq.storeP Tryz.prog (.pointer (some ⟨W.heap.size,0,none⟩)) (.agg #[.string x.1,.int .i64 x.2.1,.int .i64 x.2.2]) (W.alloc (.cells #[.string ⟨#[]⟩,.int .i64 0,.int .i64 0] 74)) = .ok () W'∧Below W.heap.size W W'∧ThreeAt W' W.heap.size 0 x∧W.heap.size<W'.heap.size:=by
 obtain⟨W',h1,h2,h3⟩:=zGm (W.alloc (.cells #[.string ⟨#[]⟩,.int .i64 0,.int .i64 0] 74)) W.heap.size _ _ _ (zX4 W _) x W.heap.size (Nat.le_refl _);obtain⟨k0,k1,k2⟩:=zPh h3;exact⟨W',h1,((Below.refl _ W).alloc (Nat.le_refl _) _).trans h2,⟨k0,k1,k2⟩,(Array.getElem?_eq_some_iff.1 h3).1⟩
theorem zSl(w1:World)(mb:Nat)(a b:Value)(hb:w1.heap[mb]?=some (.cells #[a,b] 64))(x:Pr)(B:Nat)(hB:B≤mb):
 ∃W,storeP Tryz.prog (.pointer (some ⟨mb,0,none⟩)) (valP x) w1 = .ok () W∧Below B w1 W∧W.heap[mb]?=some (.cells (encP x).toArray 64):=by
 refine⟨w1.setCells mb 0 (encP x),storeP_at (u:=a) (v:=b) (by simp[World.cell?,hb]) (by simp[World.cell?,hb]) (by simp[World.frozen?,hb]) (by simp[World.frozen?,hb]),?_,?_⟩
 · show Below B w1 ((w1.setCell ⟨mb,0,none⟩ _).setCell ⟨mb,1,none⟩ _)
   exact((Below.refl B w1).setCell (p:=⟨mb,0,none⟩) hB _).setCell (p:=⟨mb,1,none⟩) hB _
 · simp[encP,World.setCells,World.setCell,Array.getElem?_modify,hb]
theorem box_P(W:World)(x:Pr):∃W',storeP Tryz.prog (.pointer (some ⟨W.heap.size,0,none⟩)) (.agg #[.string x.1,.int .i64 x.2]) (W.alloc (.cells #[.string ⟨#[]⟩,.int .i64 0] 64)) = .ok () W'∧Below W.heap.size W W'∧TwoAt W' W.heap.size 0 x∧W.heap.size<W'.heap.size:=by
 obtain⟨W',h1,h2,h3⟩:=zSl (W.alloc (.cells #[.string ⟨#[]⟩,.int .i64 0] 64)) W.heap.size _ _ (zX4 W _) x W.heap.size (Nat.le_refl _);refine⟨W',h1,((Below.refl _ W).alloc (Nat.le_refl _) _).trans h2,⟨by simp[World.cell?,h3,encP],by simp[World.cell?,h3,encP]⟩,(Array.getElem?_eq_some_iff.1 h3).1⟩
theorem zP1{w:World}{g o:Nat}{x:Pr}(h:TwoAt w g o x):loadP Tryz.prog (.pointer (some ⟨g,o,none⟩)) w = .ok (.agg #[.string x.1,.int .i64 x.2]) w:=h.load
end Mg
end
