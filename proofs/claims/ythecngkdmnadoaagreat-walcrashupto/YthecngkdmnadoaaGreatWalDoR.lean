import Derived.Test.YthecngkdmnadoaaGreatG38
import Derived.Test.YthecngkdmnadoaaGreatG41
import Derived.Test.YthecngkdmnadoaaGreatDrawn
import Derived.Test.YthecngkdmnadoaaGreatG28
namespace Go.Proofs.YthecngkdmnadoaaGreat
open Go.RowKit
set_option maxRecDepth 100000
theorem StrsR.take{w:World}{ao:Option Addr}{n c:Nat}{l:List (List Nat)}(h:StrsR w (.slice ao n c) l){k:Nat}(hk:k≤n):StrsR w (.slice ao k c) (l.take k):=by
 obtain⟨ao',cap,e,h1,hz,h2⟩:=h;simp only[Value.slice.injEq]at e;obtain⟨rfl,rfl,rfl⟩:=e;have hl:(l.take k).length=k:=by rw[List.length_take];omega
 refine⟨ao,c,by rw[hl],by omega,hz,fun h0=>?_⟩;obtain⟨b,off,h3,h4,h5⟩:=h2 (by omega);refine⟨b,off,h3,h4,fun i x hi=>h5 i x ?_⟩;rw[List.getElem?_take]at hi
 split at hi
 · exact hi
 · cases hi
theorem StrsR.drop{w:World}{b off n c:Nat}{l:List (List Nat)}(h:StrsR w (.slice (some ⟨b,off,none⟩) n c) l){k:Nat}(hk:k≤n):StrsR w (.slice (some ⟨b,off+k,none⟩) (n-k) (c-k)) (l.drop k):=by
 obtain⟨ao',cap,e,h1,_,h2⟩:=h;simp only[Value.slice.injEq]at e;obtain⟨rfl,rfl,rfl⟩:=e;have hl:(l.drop k).length=l.length-k:=List.length_drop ..;refine⟨some ⟨b,off+k,none⟩,c-k,by rw[hl],by omega,(fun h=>by cases h),fun h0=>?_⟩;obtain⟨b',off',h3,h4,h5⟩:=h2 (by omega);simp only[Option.some.injEq,Addr.mk.injEq]at h3;obtain⟨rfl,rfl,_⟩:=h3;refine⟨b,off+k,rfl,h4,fun i x hi=>?_⟩;rw[List.getElem?_drop]at hi;rw[Nat.add_assoc];exact h5 (k+i) x hi
theorem append_ts{w:World}{ops:Array Oper}{rest:List Oper}{o:Oper}{a:Act}{Q:Exit→Act→World→Prop}(hgd:o.guard=none)(s x:Operand)
 (ho:o.op = .call { callee := .builtin .append,args:=#[s,x],argTypes:=#[31,31] }) (B:Nat) (v v2:Value) (us vs:List (List Nat))
 (hs:a.eval s=v) (hown:StrOwn B w v us) (hx:a.eval x=v2) (hsrc:StrsR w v2 vs) (hl:us.length+vs.length≤4398046511104) (hB:B≤w.heap.size)
 (h:∀v' w',StrOwn B w' v' (us++vs)→Below B w w'→wpList Tryz.prog ops Q rest (a.put o.dst v') w'):wpList Tryz.prog ops Q (o::rest) a w:=by
 obtain⟨i0,hi,hz0,hz1,hz2⟩:=info_parts info_str;obtain⟨ao,c,rfl,hc,hz,hcell⟩:=hsrc;cases vs with
 |nil=>
  cases ao with
  |none=>
   obtain rfl:=hz rfl;(refine wpList_step fun K hK=>?_);rw[if_pos (by simp[Region.wanted,hgd])];have hrun:=run_append_owned_none (P:=Tryz.prog) (w:=w) B 31 o.type 9 i0 1 Tryz.underlying31 hi v us.length (strVals us) hown;unfold Oper.wp;simp only[List.length_nil]at hx;simp[execOp,ho,resolve,invoke,builtin,hs,hx,hrun,Result.andThen];exact hK _ _ (h _ _ (by simpa using hown) (Below.refl _ _))
  |some g=>
   refine wpList_append_own w hgd s x 31 ho B 9 i0 _ 1 16 Tryz.underlying31 hi hz0 hz1 hz2 rfl (by decide) v us.length _ hs hown g 0 c [] hx rfl (fun j u hj=>by simp at hj) (fun u hu=>by cases hu) (by unfold maxLen;omega) (by omega) hB ?_;intro v' w' h5 h6 _;refine h v' w' ?_ ((Below.refl B w).grown h6 hB (fun k hk=>(World.ownsRow.lt hown k hk).1));unfold StrOwn;rw[List.append_nil];simpa using h5
 |cons y r=>
  obtain⟨g,off,rfl,hg,hcl⟩:=hcell (by simp);refine wpList_append_own w hgd s x 31 ho B 9 i0 _ 1 16 Tryz.underlying31 hi hz0 hz1 hz2 rfl (by decide) v us.length _ hs hown ⟨g,off,none⟩ (y::r).length c (strVals (y::r)) hx (by simp[strVals]) ?_ ?_ (by unfold maxLen;omega) (by omega) hB ?_
  · intro j u hj
    (have hadd:∀j,(⟨g,off,none⟩:Addr).add j=⟨g,off+j,none⟩:=fun j=>by unfold Addr.add;split<;>simp_all);rw[strVals,List.getElem?_map]at hj;obtain⟨z,hz,rfl⟩:=Option.map_eq_some_iff.1 hj;rw[hadd];exact hcl j z hz
  · intro u hu
    obtain⟨z,_,rfl⟩:=List.mem_map.1 hu;rfl
  · intro v' w' h5 h6 _
    refine h v' w' ?_ ((Below.refl B w).grown h6 hB (fun k hk=>(World.ownsRow.lt hown k hk).1));unfold StrOwn;rw[List.length_append,strVals,List.map_append];exact h5
theorem Index_any(w:World)(f:Nat)(lv xv:Value)(k z:Int):Calls Tryz.prog 41 #[.agg #[.int .u64 (f:Int),lv],.agg #[.int .i64 k,.int .i64 z,xv]] w fun e w'=>e = .returned (.int .u64 (IntKind.u64.wrap ((f:Int)+IntKind.u64.wrap z)))∧Below w.heap.size w w':=by
 have HB:Hid (∀a b,Below w.heap.size w ((w.alloc a).alloc b)):=fun a b=>((Below.refl _ w).alloc (Nat.le_refl _) a).alloc (by simp) b
 go_enter Tryz.func41,Tryz.ntmps41;go_wp2_with fail;go_ret;exact⟨rfl,HB.out _ _⟩
theorem do_cells{w W w1:World}{a0 a1 b0 b1 b2 c0 c1:Value}{t u v:TypeId}(hb:Below W.heap.size W w1)(hW:((w.alloc (.cells #[a0,a1] t)).alloc (.cells #[b0,b1,b2] u)).alloc (.cells #[c0,c1] v)=W):
 Below w.heap.size w w1∧w.heap.size+1+1<w1.heap.size∧w1.cell? ⟨w.heap.size,0,none⟩=some a0∧w1.cell? ⟨w.heap.size,1,none⟩=some a1∧w1.cell? ⟨w.heap.size+1,0,none⟩=some b0∧w1.cell? ⟨w.heap.size+1,1,none⟩=some b1∧w1.cell? ⟨w.heap.size+1,2,none⟩=some b2 ∧
 w1.cell? ⟨w.heap.size+1+1,0,none⟩=some c0∧w1.cell? ⟨w.heap.size+1+1,1,none⟩=some c1∧(∀o,w1.frozen? ⟨w.heap.size+1+1,o,none⟩=false):=by
 obtain⟨w2,hw2⟩:∃w2,w.alloc (.cells #[a0,a1] t)=w2:=⟨_,rfl⟩;obtain⟨w3,hw3⟩:∃w3,w2.alloc (.cells #[b0,b1,b2] u)=w3:=⟨_,rfl⟩;rw[hw2,hw3]at hW;have s2:w2.heap.size=w.heap.size+1:=by rw[←hw2];simp
 have s3:w3.heap.size=w.heap.size+1+1:=by rw[←hw3];simp[s2]
 have s4:W.heap.size=w.heap.size+1+1+1:=by rw[←hW];simp[s3]
 have h0:w2.heap[w.heap.size]?=some (.cells #[a0,a1] t (0,0)):=by rw[←hw2];exact alloc_newQ w _
 have h1:w3.heap[w.heap.size+1]?=some (.cells #[b0,b1,b2] u (0,0)):=by rw[←hw3,←s2];exact alloc_newQ w2 _
 have h2:W.heap[w.heap.size+1+1]?=some (.cells #[c0,c1] v (0,0)):=by rw[←hW,←s3];exact alloc_newQ w3 _
 have k0:w1.heap[w.heap.size]?=some (.cells #[a0,a1] t (0,0)):=by
  rw[hb.block _ (by omega),←hW,alloc_old w3 _ (by omega),←hw3,alloc_old w2 _ (by omega)];exact h0
 have k1:w1.heap[w.heap.size+1]?=some (.cells #[b0,b1,b2] u (0,0)):=by
  rw[hb.block _ (by omega),←hW,alloc_old w3 _ (by omega)];exact h1
 have k2:w1.heap[w.heap.size+1+1]?=some (.cells #[c0,c1] v (0,0)):=(hb.block _ (by omega)).trans h2;have hbW:Below w.heap.size w W:=by
  rw[←hW,←hw3,←hw2];exact(((Below.refl _ w).alloc (Nat.le_refl _) _).alloc (by simp) _).alloc (by simp;omega) _
 refine⟨hbW.trans (hb.mono hbW.size),(Array.getElem?_eq_some_iff.1 k2).1,?_,?_,?_,?_,?_,?_,?_,fun o=>?_⟩
 · simp[World.cell?,k0]
 · simp[World.cell?,k0]
 · simp[World.cell?,k1]
 · simp[World.cell?,k1]
 · simp[World.cell?,k1]
 · simp[World.cell?,k2]
 · simp[World.cell?,k2]
 · simp[World.frozen?,k2]
theorem exec_append_t{o:Oper}{ev:Operand→Value}{w:World}{B:Nat}{v:Value}{l:List (List Nat)}(x:List Nat)(nb c:Nat)(s y:Operand)(ho:o.op = .call { callee := .builtin .append,args:=#[s,y],argTypes:=#[31,31] })(hs:ev s=v)(hy:ev y = .slice (some ⟨nb,0,none⟩) 1 c)
 (hown:StrOwn B w v l) (hx:w.cell? ⟨nb,0,none⟩=some (.string (strB x))) (hB:B≤w.heap.size) (h63:l.length<2199023255552):
 ∃v' w',(execOp ev o).run Tryz.prog w = .ok (.value v') w'∧StrOwn B w' v' (l++[x])∧Below B w w':=by
 obtain⟨v',w',h1,h2,h3⟩:=append_trun x nb c hown hx hB h63 o.type;exact⟨v',w',exec_append_run s y _ ho hs hy h1,h2,(Below.refl B w).grown h3 hB (fun k hk=>(World.ownsRow.lt hown k hk).1)⟩
theorem one_any{P:Program}{md:Region.Mode}{ops:Array Oper}{Q:Exit→Act→World→Prop}{S:World→Prop}{p:Value→World→Prop}{i:Nat}{o:Oper}{fuel:Nat}{listed:Array Bool}{tmps:Array Value}{df:List Deferred}{w:World}(t:Tmp)(hr:Region.ready md ops listed=[i])(ho:ops[i]?=some o)(hd:o.dst=some t)(hw:Region.wanted o (yielded ops tmps)=true)
 (hrun:∃v w',(execOp (Act.eval { tmps:=tmps,defers:=df }) o).run P w = .ok (.value v) w'∧p v w') (h:∀v w',p v w'→S w'∧(S w'→wpAnyH P md ops Q S fuel (listed.setIfInBounds i true) { tmps:=tmps.setIfInBounds t v,defers:=df } w')):wpAnyH P md ops Q S (fuel+1) listed { tmps:=tmps,defers:=df } w:=by
 obtain⟨v,w',h1,h2⟩:=hrun;obtain⟨h3,h4⟩:=h v w' h2;exact one_value t hr ho hd hw h1 h3 h4
structure SDo(B s f m xc:Nat)(xa:Option Addr)(x:List Nat)(W:World):Prop where
 c0:W.cell? ⟨s,0,none⟩=some (.int .u64 (f:Int))
 c4:W.cell? ⟨s+1,2,none⟩=some (.slice xa m xc)
 row:Row B W (.slice xa m xc) x
 bs:B≤s
 ls:s+1+1<W.heap.size
theorem SDo.facts{B s f m xc:Nat}{xa:Option Addr}{x:List Nat}{W:World}(h:SDo B s f m xc xa x W):W.cell? ⟨s,0,none⟩=some (.int .u64 (f:Int))∧W.cell? ⟨s+1,2,none⟩=some (.slice xa m xc)∧(convert 34 9 (.slice xa m xc)).run Tryz.prog W = .ok (.string (strB x)) W:=⟨h.c0,h.c4,h.row.str⟩
theorem SDo.below{B s f m xc:Nat}{xa:Option Addr}{x:List Nat}{W W':World}(h:SDo B s f m xc xa x W)(hb:Below (s+1+1) W W'):SDo B s f m xc xa x W':=
 ⟨(hb.cell (p:=⟨s,0,none⟩) (by show s<s+1+1;omega)).trans h.c0,(hb.cell (p:=⟨s+1,2,none⟩) (by show s+1<s+1+1;omega)).trans h.c4,h.row.below (hb.mono (by have:=h.bs;omega)),h.bs,Nat.lt_of_lt_of_le h.ls hb.size⟩
structure SCt(s f n lc:Nat)(la:Option Addr)(z:Int)(W:World):Prop where
 c0:W.cell? ⟨s,0,none⟩=some (.int .u64 (f:Int))
 c1:W.cell? ⟨s,1,none⟩=some (.slice la n lc)
 c3:W.cell? ⟨s+1,1,none⟩=some (.int .i64 z)
theorem SCt.facts{s f n lc:Nat}{la:Option Addr}{z:Int}{W:World}(h:SCt s f n lc la z W):W.cell? ⟨s,0,none⟩=some (.int .u64 (f:Int))∧W.cell? ⟨s,1,none⟩=some (.slice la n lc)∧W.cell? ⟨s+1,1,none⟩=some (.int .i64 z):=⟨h.c0,h.c1,h.c3⟩
theorem SCt.below{s f n lc:Nat}{la:Option Addr}{z:Int}{W W':World}(h:SCt s f n lc la z W)(hb:Below (s+1+1) W W'):SCt s f n lc la z W':=
 ⟨(hb.cell (p:=⟨s,0,none⟩) (by show s<s+1+1;omega)).trans h.c0,(hb.cell (p:=⟨s,1,none⟩) (by show s<s+1+1;omega)).trans h.c1,(hb.cell (p:=⟨s+1,1,none⟩) (by show s+1<s+1+1;omega)).trans h.c3⟩
theorem str_none(w:World):StrOwn w.heap.size (w.alloc (.cells #[] 9)) (.slice (some ⟨w.heap.size,0,none⟩) 0 0) []:=World.ownsRow_lit w #[] 0 (Nat.le_refl _) (by decide) rfl
theorem do_ret{tmps:Array Value}{w:World}{rb:Nat}{c0 c1 e:Value}(h4:tmps.getD 4 undef = .pointer (some ⟨rb,0,none⟩))(h5:tmps.getD 5 undef=e)(d0:w.cell? ⟨rb,0,none⟩=some c0)(d1:w.cell? ⟨rb,1,none⟩=some c1):(results Tryz.f14 tmps).run Tryz.prog w = .ok (.tuple #[.agg #[c0,c1],e]) w:=by
 subst h5;have h4':tmps[4]?.getD undef = .pointer (some ⟨rb,0,none⟩):=by simpa using h4
 simp[results,Tryz.results14,h4',d0,d1,go_sem]
theorem box_set{w:World}{b:Nat}{c0 c1 v0 v1:Value}(d0:w.cell? ⟨b,0,none⟩=some c0)(d1:w.cell? ⟨b,1,none⟩=some c1):((w.setCell ⟨b,0,none⟩ v0).setCell ⟨b,1,none⟩ v1).cell? ⟨b,0,none⟩=some v0∧((w.setCell ⟨b,0,none⟩ v0).setCell ⟨b,1,none⟩ v1).cell? ⟨b,1,none⟩=some v1:=by
 constructor
 · simp[go_sem,d0]
 · simp[go_sem,d1]
def FromV(N:Nat)(lv lv':Value):Prop:=∀b off len cap,lv' = .slice (some ⟨b,off,none⟩) len cap→0<len→N≤b∨∃off' len' cap',lv = .slice (some ⟨b,off',none⟩) len' cap'∧0<len'
def DoSays(w:World)(lv:Value)(s:Int×SR)(e:Ending)(w':World):Prop:=Below w.heap.size w w'∧∃lv',e = .returned (.tuple #[.agg #[.int .u64 (s.2.1:Int),lv'],.int .i64 s.1])∧StrsR w' lv' s.2.2∧FromV w.heap.size lv lv'
set_option maxHeartbeats 4000000 in
theorem Do_any(w:World)(r:SR)(k z:Int)(x:List Nat)(lv xv:Value)(hl:StrsR w lv r.2)(hx:Row w.heap.size w xv x)(hf:r.1+r.2.length≤2305843009213693952)(hll:r.2.length<1099511627776)(h1 : -1000000<z)(h2:z<1000000)(hxl:x.length≤1099511627776):
 Calls Tryz.prog 14 #[.agg #[.int .u64 (r.1:Int),lv],.agg #[.int .i64 k,.int .i64 z,xv]] w (DoSays w lv (doR r k z x)):=by
 obtain⟨f,l⟩:=r
 dsimp only at hl hf hll
 have hix:=ix_near f z (by omega) h1 h2;have HLR:Hid (StrsR w lv l):=hl;have HXR:Hid (Row w.heap.size w xv x):=hx;obtain⟨xa,xc,rfl,_⟩:=hx.shape;obtain⟨la,lc,rfl,hlc,hlz,hlcell⟩:=hl;have HCE:Hid (0<l.length→∃b off,la=some ⟨b,off,none⟩∧b<w.heap.size):=fun h0=>by obtain⟨b,off,q1,q2,_⟩:=hlcell h0;exact⟨b,off,q1,q2⟩
 have HB:Hid (∀a b,Below w.heap.size w ((w.alloc a).alloc b)):=fun a b=>((Below.refl _ w).alloc (Nat.le_refl _) a).alloc (by simp) b
 have HI:Hid (∀W,Calls Tryz.prog 41 #[.agg #[.int .u64 (f:Int),.slice la l.length lc],.agg #[.int .i64 k,.int .i64 z,.slice xa x.length xc]] W fun e w'=>e = .returned (.int .u64 (IntKind.u64.wrap ((f:Int)+IntKind.u64.wrap z)))∧Below W.heap.size W w'):=fun W=>Index_any W f _ _ k z
 obtain⟨ix,hixe⟩:∃ix,(IntKind.u64.wrap ((f:Int)+IntKind.u64.wrap z)).toNat=ix:=⟨_,rfl⟩;have hwi:IntKind.u64.wrap ((f:Int)+IntKind.u64.wrap z)=(ix:Int):=by
  have:=(wrap_u64 ((f:Int)+IntKind.u64.wrap z)).1;omega
 have hwil:ix<18446744073709551616:=by
  have:=(wrap_u64 ((f:Int)+IntKind.u64.wrap z)).2;omega
 have HD:Hid (doR (f,l) k z x=if k=0 then (if 512<x.length then (50,(f,l))else (0,(f,l++[x])))else if k=2 then (if z<0∨(l.length:Int)<z then (51,(f,l))else (0,(f,l.take z.toNat)))else if k=3 then (if ix≤f then (0,(f,l))else if f+l.length<ix then (51,(f,l))else (0,(ix,l.drop z.toNat)))else (0,(f,l))):=by
  show _=_;unfold doR
  dsimp only
  rw[hixe]
 rw[hwi]at HI;rw[hixe]at hix;obtain⟨n,hn⟩:∃n,l.length=n:=⟨_,rfl⟩;have HN:Hid (l.length=n):=hn;rw[hn]at HLR HCE HI HD hf hll hlc ⊢;obtain⟨m,hm⟩:∃m,x.length=m:=⟨_,rfl⟩;have HM:Hid (x.length=m):=hm;rw[hm]at HXR HI HD hxl ⊢;clear hx hlcell hlz hn hm hwi;have HSt:Hid (∀(e:Int) W,Below w.heap.size w W→DoSays w (.slice la n lc) (e,(f,l)) (.returned (.tuple #[.agg #[.int .u64 (f:Int),.slice la n lc],.int .i64 e])) W):=fun e W hW=>⟨hW,_,rfl,HLR.out.below hW,fun b off len cap he h0 => .inr ⟨off,len,cap,he,h0⟩⟩
 obtain⟨en,hen⟩:∃en,f+n=en:=⟨_,rfl⟩;have hen2:(f:Int)+(n:Int)=(en:Int):=by omega
 by_cases k0:k=0
 · subst k0
   by_cases h5:512<m
   · have h5z:(512:Int)<(m:Int):=by omega
     (have HR:Hid (doR (f,l) 0 z x=(50,(f,l))):=by show _=_;rw[HD.out,if_pos rfl,if_pos h5]);clear h5 HD;rw[HR.out];go_enter Tryz.func14,Tryz.ntmps14;go_wp2_with fail;obtain⟨W,hW⟩:∃W,((w.alloc (.cells #[.int .u64 (f:Int),.slice la n lc] 33)).alloc (.cells #[.int .i64 0,.int .i64 z,.slice xa m xc] 36)).alloc (.cells #[.int .u64 0,.slice none 0 0] 33)=W:=⟨_,rfl⟩;rw[hW];refine(HI.out W).mono ?_;rintro e w1 ⟨rfl,hb1⟩;obtain⟨hbw,hsl,d0,d1,d2,d3,d4,d5,d6,dz⟩:=do_cells hb1 hW;have hsz:=hbw.size;(have hlt0:w.heap.size<w1.heap.size:=by omega);(have hlt1:w.heap.size+1<w1.heap.size:=by omega);have HBW:Hid (Below w.heap.size w w1):=hbw;clear hb1 hW hbw;go_wp2_with fail;refine bodyPost_ret (do_ret rfl rfl (box_set d5 d6).1 (box_set d5 d6).2) rfl ?_;exact HSt.out 50 _ ((HBW.out.setCell (by show w.heap.size≤w.heap.size+1+1;omega) _).setCell (by show w.heap.size≤w.heap.size+1+1;omega) _)
   · have h5z:¬(512:Int)<(m:Int):=by omega
     (have HR:Hid (doR (f,l) 0 z x=(0,(f,l++[x]))):=by show _=_;rw[HD.out,if_pos rfl,if_neg h5]);clear h5 HD;rw[HR.out];go_enter Tryz.func14,Tryz.ntmps14;go_wp2_with fail;obtain⟨W,hW⟩:∃W,((w.alloc (.cells #[.int .u64 (f:Int),.slice la n lc] 33)).alloc (.cells #[.int .i64 0,.int .i64 z,.slice xa m xc] 36)).alloc (.cells #[.int .u64 0,.slice none 0 0] 33)=W:=⟨_,rfl⟩;rw[hW];refine(HI.out W).mono ?_;rintro e w1 ⟨rfl,hb1⟩;obtain⟨hbw,hsl,d0,d1,d2,d3,d4,d5,d6,dz⟩:=do_cells hb1 hW;have hsz:=hbw.size;(have hlt0:w.heap.size<w1.heap.size:=by omega);(have hlt1:w.heap.size+1<w1.heap.size:=by omega);have HBW:Hid (Below w.heap.size w w1):=hbw;clear hb1 hW hbw;(have HCL:Hid (∀w3,Below w1.heap.size (w1.alloc (.cells #[] 9)) w3→Below w1.heap.size w1 w3):=fun w3 h=>(((Below.refl _ w1).alloc (Nat.le_refl _) _).trans h));(have HXB:Hid (x.length≤1099511627776):=by show _≤_;rw[HM.out];exact hxl);go_wp2_with (at_builtin;refine append_ts rfl _ _ rfl w1.heap.size _ _ [] l rfl (str_none w1) rfl (HLR.out.below (HBW.out.alloc hsz _)) (by rw[HN.out];simp only[List.length_nil];omega) (by simp) ?_;intro v3 w3 ho3 hb3;have H3:Hid (StrOwn w1.heap.size w3 v3 l∧Below w1.heap.size w1 w3):=⟨by simpa using ho3,HCL.out w3 hb3⟩;clear ho3 hb3);have s3:=H3.out.2.size;have e0:=(H3.out.2.cell (p:=⟨w.heap.size,0,none⟩) hlt0).trans d0;have e1:=(H3.out.2.cell (p:=⟨w.heap.size,1,none⟩) hlt0).trans d1;have e2:=(H3.out.2.cell (p:=⟨w.heap.size+1,0,none⟩) hlt1).trans d2;have e3:=(H3.out.2.cell (p:=⟨w.heap.size+1,1,none⟩) hlt1).trans d3;have e4:=(H3.out.2.cell (p:=⟨w.heap.size+1,2,none⟩) hlt1).trans d4;have e5:=(H3.out.2.cell (p:=⟨w.heap.size+1+1,0,none⟩) hsl).trans d5;have e6:=(H3.out.2.cell (p:=⟨w.heap.size+1+1,1,none⟩) hsl).trans d6;(have ez:∀o,w3.frozen? ⟨w.heap.size+1+1,o,none⟩=false:=fun o=>(H3.out.2.frozen (p:=⟨w.heap.size+1+1,o,none⟩) hsl).trans (dz o));have HB3:Hid (Below w.heap.size w w3):=HBW.out.trans (H3.out.2.mono hsz);have hstr:=(HXR.out.below HB3.out).str;(have hl0:w.heap.size<w3.heap.size:=by omega);(have hl1:w.heap.size+1<w3.heap.size:=by omega);(have hl2:w.heap.size+1+1<w3.heap.size:=by omega);clear d0 d1 d2 d3 d4 d5 d6 dz s3;go_wp2_with fail;have hS3:SDo w.heap.size w.heap.size f m xc xa x w3.drew:=⟨e0,e4,(HXR.out.below HB3.out).below ((Below.refl _ _).drew),Nat.le_refl _,hl2⟩;have HZ:Hid (∀o,w3.frozen? ⟨w.heap.size+1+1,o,none⟩=false):=ez;have HE:Hid (w3.cell? ⟨w.heap.size+1+1,0,none⟩=some (.int .u64 0)∧w3.cell? ⟨w.heap.size+1+1,1,none⟩=some (.slice none 0 0)):=⟨e5,e6⟩;clear e0 e1 e2 e3 e4 e5 e6 ez hstr hl0 hl1;refine region_at (S:=SDo w.heap.size w.heap.size f m xc xa x) 11 rfl (by kernel_rfl) hS3 (fun hHeld=>?_);refine tq4 SDo.facts 0 32 1 33 2 34 3 35 ?_;simp only[sZa,sZb,sZc];refine tq2 SDo.facts 4 36 5 37 ?_;simp only[sZa,sZb,sZc];obtain⟨w7,hw7⟩:∃w7,w3.drew.alloc (.cells #[.string (strB x)] 9)=w7:=⟨_,rfl⟩;(have hb7:Below w3.heap.size w3 w7:=by rw[←hw7];exact((Below.refl _ w3).drew).alloc (Nat.le_refl _) _);have hx7:w7.cell? ⟨w3.heap.size,0,none⟩=some (.string (strB x)):=by
      have h9:w7.heap[w3.heap.size]?=some (.cells #[.string (strB x)] 9 (0,0)):=by
       rw[←hw7];exact alloc_newQ w3.drew _
      simp[World.cell?,h9]
     have hS7:SDo w.heap.size w.heap.size f m xc xa x w7:=hS3.below ((Below.refl _ w3.drew).trans (show Below (w.heap.size+1+1) w3.drew w7 from⟨hb7.os,hb7.tape,hb7.output,hb7.size,fun k hk=>hb7.block k (by omega)⟩));refine one_value (i:=6) (v := .slice (some ⟨w3.heap.size,0,none⟩) 1 1) (w':=w7) 38 (by kernel_rfl) rfl rfl (by rfl) (by rw[←hw7];go_simp;first|done|exact rfl) hS7 (fun hHeld2=>?_);simp only[sZa,sZb,sZc];have hB7:w1.heap.size≤w7.heap.size:=Nat.le_trans H3.out.2.size hb7.size;refine one_any (i:=7) 39 (by kernel_rfl) rfl rfl (by rfl) (exec_append_t x w3.heap.size 1 _ _ rfl rfl rfl (H3.out.1.below hb7) hx7 hB7 (by rw[HN.out];omega)) ?_;rintro v9 w9 ⟨ho9,hb9⟩;have hS9:SDo w.heap.size w.heap.size f m xc xa x w9:=hS7.below (hb9.mono (by omega));have hB9:Below w1.heap.size w1 w9:=(H3.out.2.trans (hb7.mono H3.out.2.size)).trans hb9;obtain⟨a9,c9,hv9⟩:=ho9.shape;(have hlen9:(l++[x]).length=n+1:=by rw[List.length_append,HN.out];rfl);rw[hlen9]at hv9;subst hv9;refine⟨hS9,fun hHeld3=>?_⟩;simp only[sZa,sZb,sZc];refine tq SDo.facts 8 40 ?_;simp only[sZa,sZb,sZc];have hl9:w.heap.size+1+1<w9.heap.size:=hS9.ls;have hb39:Below w3.heap.size w3 w9∨True := .inr trivial;have k5:w9.cell? ⟨w.heap.size+1+1,0,none⟩=some (.int .u64 0):=(hb9.cell (p:=⟨w.heap.size+1+1,0,none⟩) hsl).trans ((hb7.cell (p:=⟨w.heap.size+1+1,0,none⟩) hl2).trans HE.out.1);have k6:w9.cell? ⟨w.heap.size+1+1,1,none⟩=some (.slice none 0 0):=(hb9.cell (p:=⟨w.heap.size+1+1,1,none⟩) hsl).trans ((hb7.cell (p:=⟨w.heap.size+1+1,1,none⟩) hl2).trans HE.out.2);(have kz:∀o,w9.frozen? ⟨w.heap.size+1+1,o,none⟩=false:=fun o=>(hb9.frozen (p:=⟨w.heap.size+1+1,o,none⟩) hsl).trans ((hb7.frozen (p:=⟨w.heap.size+1+1,o,none⟩) hl2).trans (HZ.out o)));obtain⟨w10,hw10⟩:∃w10,(w9.setCell ⟨w.heap.size+1+1,0,none⟩ (.int .u64 (f:Int))).setCell ⟨w.heap.size+1+1,1,none⟩ (.slice a9 (n+1) c9)=w10:=⟨_,rfl⟩;have hb10:Below (w.heap.size+1+1) w9 w10:=by
      rw[←hw10];exact((Below.refl _ w9).setCell (p:=⟨w.heap.size+1+1,0,none⟩) (Nat.le_refl _) _).setCell (p:=⟨w.heap.size+1+1,1,none⟩) (Nat.le_refl _) _
     have hbs:=box_set (v0 := .int .u64 (f:Int)) (v1 := .slice a9 (n+1) c9) k5 k6;rw[hw10]at hbs;have hblk:∀k,k≠w.heap.size+1+1→w10.heap[k]?=w9.heap[k]?:=by
      intro k hk;rw[←hw10,Below.heap_setCell _ _ _ _ hk,Below.heap_setCell _ _ _ _ hk]
     have ho10:StrOwn w1.heap.size w10 (.slice a9 (n+1) c9) (l++[x]):=by
      obtain⟨q0,⟨q1,q2⟩|⟨gg,cap,cur,q1,q2,q3,q4⟩⟩:=ho9
      · exact⟨q0,.inl ⟨q1,q2⟩⟩
      · exact⟨q0,.inr ⟨gg,cap,cur,q1,q2,(hblk gg (by omega)).trans q3,q4⟩⟩
     have hS10:=hS9.below hb10;refine one_skip (i:=9) (w':=w10) (by kernel_rfl) rfl rfl (by rfl) (by rw[←hw10];have z0:=kz 0;have z1:=kz 1;go_simp;first|done|exact rfl) hS10 (fun hHeld4=>?_);refine tq SDo.facts 10 5 ?_;simp only[sZa,sZb,sZc];refine wpAnyH_done (by kernel_rfl) ?_ _;have hnew:FromV w.heap.size (.slice la n lc) (.slice a9 (n+1) c9):=fun b off len cap he _=>by
      simp only[Value.slice.injEq]at he;obtain⟨_,⟨q1,_⟩|⟨gg,cp,cur,q1,q2,_⟩⟩:=ho10
      · simp only[Value.slice.injEq]at q1
        rw[q1.1]at he;cases he.1
      · simp only[Value.slice.injEq]at q1
        rw[q1.1]at he;simp only[Option.some.injEq,Addr.mk.injEq]at he;exact .inl (by omega)
     have HFin:Hid (DoSays w (.slice la n lc) (0,(f,l++[x])) (.returned (.tuple #[.agg #[.int .u64 (f:Int),.slice a9 (n+1) c9],.int .i64 0])) w10):=⟨(HBW.out.trans (hB9.mono hsz)).trans (hb10.mono (by omega)),_,rfl,ho10.read,hnew⟩;have HBs:Hid _:=hbs;clear hnew hHeld hHeld2 hHeld3 hHeld4 hS3 hS7 hS9 hS10 hw7 hx7 hb7 hb9 hB9 hB7 ho9 ho10 hbs hblk hb10 hw10 k5 k6 kz hb39 hl9;go_wp2_with fail;refine bodyPost_ret (do_ret rfl rfl HBs.out.1 HBs.out.2) rfl ?_;exact HFin.out
 by_cases k2:k=2
 · subst k2
   (have HR0:Hid (doR (f,l) 2 z x=if z<0∨(n:Int)<z then (51,(f,l))else (0,(f,l.take z.toNat))):=by show _=_;rw[HD.out,if_neg (by decide),if_pos rfl]);clear HD k0;by_cases hz0:z<0
   · have HR:Hid (doR (f,l) 2 z x=(51,(f,l))):=by show _=_;rw[HR0.out,if_pos (.inl hz0)]
     clear HR0;rw[HR.out];go_enter Tryz.func14,Tryz.ntmps14;go_wp2_with fail;obtain⟨W,hW⟩:∃W,((w.alloc (.cells #[.int .u64 (f:Int),.slice la n lc] 33)).alloc (.cells #[.int .i64 2,.int .i64 z,.slice xa m xc] 36)).alloc (.cells #[.int .u64 0,.slice none 0 0] 33)=W:=⟨_,rfl⟩;rw[hW];refine(HI.out W).mono ?_;rintro e w1 ⟨rfl,hb1⟩;obtain⟨hbw,hsl,d0,d1,d2,d3,d4,d5,d6,dz⟩:=do_cells hb1 hW;have hsz:=hbw.size;(have hlt0:w.heap.size<w1.heap.size:=by omega);(have hlt1:w.heap.size+1<w1.heap.size:=by omega);have HBW:Hid (Below w.heap.size w w1):=hbw;clear hb1 hW hbw;go_wp2_with fail;refine bodyPost_ret (do_ret rfl rfl (box_set d5 d6).1 (box_set d5 d6).2) rfl ?_;exact HSt.out 51 _ ((HBW.out.setCell (by show w.heap.size≤w.heap.size+1+1;omega) _).setCell (by show w.heap.size≤w.heap.size+1+1;omega) _)
   · by_cases hzn:(n:Int)<z
     · have HR:Hid (doR (f,l) 2 z x=(51,(f,l))):=by show _=_;rw[HR0.out,if_pos (.inr hzn)]
       clear HR0;rw[HR.out];go_enter Tryz.func14,Tryz.ntmps14;go_wp2_with fail;obtain⟨W,hW⟩:∃W,((w.alloc (.cells #[.int .u64 (f:Int),.slice la n lc] 33)).alloc (.cells #[.int .i64 2,.int .i64 z,.slice xa m xc] 36)).alloc (.cells #[.int .u64 0,.slice none 0 0] 33)=W:=⟨_,rfl⟩;rw[hW];refine(HI.out W).mono ?_;rintro e w1 ⟨rfl,hb1⟩;obtain⟨hbw,hsl,d0,d1,d2,d3,d4,d5,d6,dz⟩:=do_cells hb1 hW;have hsz:=hbw.size;(have hlt0:w.heap.size<w1.heap.size:=by omega);(have hlt1:w.heap.size+1<w1.heap.size:=by omega);have HBW:Hid (Below w.heap.size w w1):=hbw;clear hb1 hW hbw;go_wp2_with fail;refine bodyPost_ret (do_ret rfl rfl (box_set d5 d6).1 (box_set d5 d6).2) rfl ?_;exact HSt.out 51 _ ((HBW.out.setCell (by show w.heap.size≤w.heap.size+1+1;omega) _).setCell (by show w.heap.size≤w.heap.size+1+1;omega) _)
     · have HR:Hid (doR (f,l) 2 z x=(0,(f,l.take z.toNat))):=by show _=_;rw[HR0.out,if_neg (by omega)]
       clear HR0;rw[HR.out];obtain⟨q,rfl⟩:∃q:Nat,z=(q:Int):=⟨z.toNat,by omega⟩;rw[Int.toNat_natCast]at HR hix;(have hqn:(q:Int)≤(n:Int):=by omega);(have hqc:(q:Int)≤(lc:Int):=by omega);clear hix h1 h2 hz0 hzn hixe;go_enter Tryz.func14,Tryz.ntmps14;go_wp2_with fail;obtain⟨W,hW⟩:∃W,((w.alloc (.cells #[.int .u64 (f:Int),.slice la n lc] 33)).alloc (.cells #[.int .i64 2,.int .i64 (q:Int),.slice xa m xc] 36)).alloc (.cells #[.int .u64 0,.slice none 0 0] 33)=W:=⟨_,rfl⟩;rw[hW];refine(HI.out W).mono ?_;rintro e w1 ⟨rfl,hb1⟩;obtain⟨hbw,hsl,d0,d1,d2,d3,d4,d5,d6,dz⟩:=do_cells hb1 hW;have hsz:=hbw.size;(have hlt0:w.heap.size<w1.heap.size:=by omega);(have hlt1:w.heap.size+1<w1.heap.size:=by omega);have HBW:Hid (Below w.heap.size w w1):=hbw;clear hb1 hW hbw;go_wp2_with fail;have hS3:SCt w.heap.size f n lc la (q:Int) w1.drew:=⟨d0,d1,d3⟩;have HE:Hid (w1.cell? ⟨w.heap.size+1+1,0,none⟩=some (.int .u64 0)∧w1.cell? ⟨w.heap.size+1+1,1,none⟩=some (.slice none 0 0)∧∀o,w1.frozen? ⟨w.heap.size+1+1,o,none⟩=false):=⟨d5,d6,dz⟩;clear d0 d1 d2 d3 d4 d5 d6 dz;refine region_at (S:=SCt w.heap.size f n lc la (q:Int)) 10 rfl (by kernel_rfl) hS3 (fun hHeld=>?_);refine tq4 SCt.facts 0 55 1 56 2 57 3 58 ?_;simp only[sZa,sZb,sZc];refine tq2 SCt.facts 4 59 5 60 ?_;simp only[sZa,sZb,sZc];refine tk (i:=6) (v := .slice la q lc) 61 rfl rfl (by kernel_rfl) (fun _ s=>by(have h:=SCt.facts s;clear s;go_simp;first|done|exact rfl|simp_all|(simp;omega))) ?_;simp only[sZa,sZb,sZc];refine tq SCt.facts 7 62 ?_;simp only[sZa,sZb,sZc];obtain⟨w10,hw10⟩:∃w10,(w1.drew.setCell ⟨w.heap.size+1+1,0,none⟩ (.int .u64 (f:Int))).setCell ⟨w.heap.size+1+1,1,none⟩ (.slice la q lc)=w10:=⟨_,rfl⟩;have hb10:Below (w.heap.size+1+1) w1.drew w10:=by
        rw[←hw10];exact((Below.refl _ w1.drew).setCell (p:=⟨w.heap.size+1+1,0,none⟩) (Nat.le_refl _) _).setCell (p:=⟨w.heap.size+1+1,1,none⟩) (Nat.le_refl _) _
       have hbs:=box_set (w:=w1.drew) (v0 := .int .u64 (f:Int)) (v1 := .slice la q lc) HE.out.1 HE.out.2.1;rw[hw10]at hbs;have hz0:w1.frozen? ⟨w.heap.size+1+1,0,none⟩=false:=HE.out.2.2 0;have hz1:w1.frozen? ⟨w.heap.size+1+1,1,none⟩=false:=HE.out.2.2 1;have hk0:w1.cell? ⟨w.heap.size+1+1,0,none⟩=some (.int .u64 0):=HE.out.1;have hk1:w1.cell? ⟨w.heap.size+1+1,1,none⟩=some (.slice none 0 0):=HE.out.2.1;have hS10:=hS3.below hb10;refine one_skip (i:=8) (w':=w10) (by kernel_rfl) rfl rfl (by rfl) (by rw[←hw10];go_simp;first|done|exact rfl) hS10 (fun hHeld4=>?_);refine tq SCt.facts 9 5 ?_;simp only[sZa,sZb,sZc];refine wpAnyH_done (by kernel_rfl) ?_ _;have hb0:Below w.heap.size w w10:=HBW.out.drew.trans (hb10.mono (by omega));have HFin:Hid (DoSays w (.slice la n lc) (0,(f,l.take q)) (.returned (.tuple #[.agg #[.int .u64 (f:Int),.slice la q lc],.int .i64 0])) w10):=⟨hb0,_,rfl,(HLR.out.below hb0).take (by omega),fun b off len cap he h0=>by simp only[Value.slice.injEq]at he;exact .inr ⟨off,n,lc,by rw[he.1],by omega⟩⟩;have HBs:Hid _:=hbs;clear hHeld hHeld4 hS3 hS10 hbs hb10 hw10 hz0 hz1 hk0 hk1 hb0;go_wp2_with fail;refine bodyPost_ret (do_ret rfl rfl HBs.out.1 HBs.out.2) rfl ?_;exact HFin.out
 by_cases k3:k=3
 · subst k3
   (have HR0:Hid (doR (f,l) 3 z x=if ix≤f then (0,(f,l))else if f+n<ix then (51,(f,l))else (0,(ix,l.drop z.toNat))):=by show _=_;rw[HD.out,if_neg (by decide),if_neg (by decide),if_pos rfl]);clear HD k0 k2;by_cases hz0:ix≤f
   · have HR:Hid (doR (f,l) 3 z x=(0,(f,l))):=by show _=_;rw[HR0.out,if_pos hz0]
     clear HR0;rw[HR.out];(have hz0':(ix:Int)≤(f:Int):=by omega);go_enter Tryz.func14,Tryz.ntmps14;go_wp2_with fail;obtain⟨W,hW⟩:∃W,((w.alloc (.cells #[.int .u64 (f:Int),.slice la n lc] 33)).alloc (.cells #[.int .i64 3,.int .i64 z,.slice xa m xc] 36)).alloc (.cells #[.int .u64 0,.slice none 0 0] 33)=W:=⟨_,rfl⟩;rw[hW];refine(HI.out W).mono ?_;rintro e w1 ⟨rfl,hb1⟩;obtain⟨hbw,hsl,d0,d1,d2,d3,d4,d5,d6,dz⟩:=do_cells hb1 hW;have hsz:=hbw.size;(have hlt0:w.heap.size<w1.heap.size:=by omega);(have hlt1:w.heap.size+1<w1.heap.size:=by omega);have HBW:Hid (Below w.heap.size w w1):=hbw;clear hb1 hW hbw;go_wp2_with fail;refine bodyPost_ret (do_ret rfl rfl (box_set d5 d6).1 (box_set d5 d6).2) rfl ?_;exact HSt.out 0 _ ((HBW.out.setCell (by show w.heap.size≤w.heap.size+1+1;omega) _).setCell (by show w.heap.size≤w.heap.size+1+1;omega) _)
   · by_cases hzn:f+n<ix
     · have HR:Hid (doR (f,l) 3 z x=(51,(f,l))):=by show _=_;rw[HR0.out,if_neg hz0,if_pos hzn]
       clear HR0;rw[HR.out];(have hz0':¬(ix:Int)≤(f:Int):=by omega);(have hzn':(en:Int)<(ix:Int):=by omega);go_enter Tryz.func14,Tryz.ntmps14;go_wp2_with fail;obtain⟨W,hW⟩:∃W,((w.alloc (.cells #[.int .u64 (f:Int),.slice la n lc] 33)).alloc (.cells #[.int .i64 3,.int .i64 z,.slice xa m xc] 36)).alloc (.cells #[.int .u64 0,.slice none 0 0] 33)=W:=⟨_,rfl⟩;rw[hW];refine(HI.out W).mono ?_;rintro e w1 ⟨rfl,hb1⟩;obtain⟨hbw,hsl,d0,d1,d2,d3,d4,d5,d6,dz⟩:=do_cells hb1 hW;have hsz:=hbw.size;(have hlt0:w.heap.size<w1.heap.size:=by omega);(have hlt1:w.heap.size+1<w1.heap.size:=by omega);have HBW:Hid (Below w.heap.size w w1):=hbw;clear hb1 hW hbw;go_wp2_with fail;refine bodyPost_ret (do_ret rfl rfl (box_set d5 d6).1 (box_set d5 d6).2) rfl ?_;exact HSt.out 51 _ ((HBW.out.setCell (by show w.heap.size≤w.heap.size+1+1;omega) _).setCell (by show w.heap.size≤w.heap.size+1+1;omega) _)
     · have HR:Hid (doR (f,l) 3 z x=(0,(ix,l.drop z.toNat))):=by show _=_;rw[HR0.out,if_neg hz0,if_neg hzn]
       clear HR0;rw[HR.out];obtain⟨q,rfl⟩:∃q:Nat,z=(q:Int):=⟨z.toNat,by omega⟩;rw[Int.toNat_natCast]at HR hix;(have hqn:(q:Int)≤(n:Int):=by omega);(have hqc:(q:Int)≤(lc:Int):=by omega);(have hz0':¬(ix:Int)≤(f:Int):=by omega);(have hzn':¬(en:Int)<(ix:Int):=by omega);obtain⟨lb,off,rfl,hlbw⟩:=HCE.out (by omega);clear hix h1 h2 hz0 hzn hixe;go_enter Tryz.func14,Tryz.ntmps14;go_wp2_with fail;obtain⟨W,hW⟩:∃W,((w.alloc (.cells #[.int .u64 (f:Int),.slice (some ⟨lb,off,none⟩) n lc] 33)).alloc (.cells #[.int .i64 3,.int .i64 (q:Int),.slice xa m xc] 36)).alloc (.cells #[.int .u64 0,.slice none 0 0] 33)=W:=⟨_,rfl⟩;rw[hW];refine(HI.out W).mono ?_;rintro e w1 ⟨rfl,hb1⟩;obtain⟨hbw,hsl,d0,d1,d2,d3,d4,d5,d6,dz⟩:=do_cells hb1 hW;have hsz:=hbw.size;(have hlt0:w.heap.size<w1.heap.size:=by omega);(have hlt1:w.heap.size+1<w1.heap.size:=by omega);have HBW:Hid (Below w.heap.size w w1):=hbw;clear hb1 hW hbw;go_wp2_with fail
       · have hbb:∀u v,Below w.heap.size w ((w1.setCell ⟨w.heap.size+1+1,0,none⟩ u).setCell ⟨w.heap.size+1+1,1,none⟩ v):=fun u v=>(HBW.out.setCell (p:=⟨w.heap.size+1+1,0,none⟩) (by show w.heap.size≤w.heap.size+1+1;omega) _).setCell (p:=⟨w.heap.size+1+1,1,none⟩) (by show w.heap.size≤w.heap.size+1+1;omega) _
         refine bodyPost_ret (do_ret rfl rfl (box_set d5 d6).1 (box_set d5 d6).2) rfl ?_;(have hlq:(l.drop q).length=n-q:=by rw[List.length_drop,HN.out]);exact⟨hbb _ _,_,rfl,⟨some ⟨lb,off,none⟩,0,by rw[hlq],by rw[hlq];omega,(fun h=>by cases h),(fun h0=>by rw[hlq]at h0;omega)⟩,fun b o len cap he h0=>by simp only[Value.slice.injEq,Option.some.injEq,Addr.mk.injEq]at he;omega⟩
       · have hbb:∀u v,Below w.heap.size w ((w1.setCell ⟨w.heap.size+1+1,0,none⟩ u).setCell ⟨w.heap.size+1+1,1,none⟩ v):=fun u v=>(HBW.out.setCell (p:=⟨w.heap.size+1+1,0,none⟩) (by show w.heap.size≤w.heap.size+1+1;omega) _).setCell (p:=⟨w.heap.size+1+1,1,none⟩) (by show w.heap.size≤w.heap.size+1+1;omega) _
         refine bodyPost_ret (do_ret rfl rfl (box_set d5 d6).1 (box_set d5 d6).2) rfl ?_;exact⟨hbb _ _,_,rfl,(HLR.out.below (hbb _ _)).drop (by omega),fun b o len cap he h0=>by simp only[Value.slice.injEq,Option.some.injEq,Addr.mk.injEq]at he;obtain⟨⟨rfl,_⟩,_⟩:=he;exact .inr ⟨off,n,lc,rfl,by omega⟩⟩
 · have HR:Hid (doR (f,l) k z x=(0,(f,l))):=by show _=_;rw[HD.out,if_neg k0,if_neg k2,if_neg k3]
   clear HD;rw[HR.out];(have e0:(k==0)=false:=by simpa using k0);(have e2:(k==2)=false:=by simpa using k2);(have e3:(k==3)=false:=by simpa using k3);clear k0 k2 k3;go_enter Tryz.func14,Tryz.ntmps14;go_wp2_with fail;obtain⟨W,hW⟩:∃W,((w.alloc (.cells #[.int .u64 (f:Int),.slice la n lc] 33)).alloc (.cells #[.int .i64 k,.int .i64 z,.slice xa m xc] 36)).alloc (.cells #[.int .u64 0,.slice none 0 0] 33)=W:=⟨_,rfl⟩;rw[hW];refine(HI.out W).mono ?_;rintro e w1 ⟨rfl,hb1⟩;obtain⟨hbw,hsl,d0,d1,d2,d3,d4,d5,d6,dz⟩:=do_cells hb1 hW;have hsz:=hbw.size;(have hlt0:w.heap.size<w1.heap.size:=by omega);(have hlt1:w.heap.size+1<w1.heap.size:=by omega);have HBW:Hid (Below w.heap.size w w1):=hbw;clear hb1 hW hbw;go_wp2_with fail;refine bodyPost_ret (do_ret rfl rfl (box_set d5 d6).1 (box_set d5 d6).2) rfl ?_;exact HSt.out 0 _ ((HBW.out.setCell (by show w.heap.size≤w.heap.size+1+1;omega) _).setCell (by show w.heap.size≤w.heap.size+1+1;omega) _)
end Go.Proofs.YthecngkdmnadoaaGreat
