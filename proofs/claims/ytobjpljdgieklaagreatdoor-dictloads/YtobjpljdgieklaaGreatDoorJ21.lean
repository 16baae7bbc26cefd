import Derived.Test.YtobjpljdgieklaaGreatDoorJ18
import Derived.Laws.OwnMore
import Derived.Test.YtobjpljdgieklaaGreatDoorJ14
import Derived.Deep.MidRow
import Derived.Stop.BytesEq
set_option maxRecDepth 100000
set_option maxHeartbeats 8000000
namespace Go.Proofs.YtobjpljdgieklaaGreatDoor
section
open Go.RowKit Nums Ed
theorem zP9(s:ByteArray)(w:World)(ht:Tabs w)(hm:s.size≤9223372036854775807):
 Calls Tryz.prog 177 #[.string s] w fun e w'=>∃v f,e = .returned (.tuple #[v,.bool f])∧Below w.heap.size w w' ∧
  ((f=false∧rsE s.data.toList=none)∨(f=true∧∃xs,rsE s.data.toList=some xs∧Made w.heap.size w' v xs)):=by
 by_cases hlen:4096<s.size
 · have HF:Hid (rsE s.data.toList=none):=rsE_far (by rw[zAj];exact hlen)
   go_enter Tryz.func177,Tryz.ntmps177;go_wp2;go_ret2;exact⟨_,_,rfl,Below.refl _ _,.inl ⟨rfl,HF.out⟩⟩
 · have HR:Hid (Room s.data.toList):=zEx (by rw[zAj];omega)
   go_enter Tryz.func177,Tryz.ntmps177;go_upto_region 4 with(go_at_call 71;refine(zF4 s _ ht (by omega) HR.out).mono ?_;rintro e w1 ⟨v,hb1,⟨hn,rfl,rfl⟩|⟨xs,hsome,rfl,hmade⟩⟩)
   · have HF:Hid (rsE s.data.toList=none):=zP4 hn
     clear hn;go_wp2;go_returns;exact⟨_,_,rfl,hb1,.inl ⟨rfl,HF.out⟩⟩
   · obtain⟨ad,cap,rfl⟩:=hmade.runesE.form
     by_cases hx:xs.length≤1024
     · have HF:Hid (rsE s.data.toList=some xs):=zKc hsome hx
       clear hsome;go_wp2;go_returns;exact⟨_,_,rfl,hb1,.inr ⟨by simp;omega,xs,HF.out,hmade⟩⟩
     · have HF:Hid (rsE s.data.toList=none):=zP5 hsome hx
       clear hsome;go_wp2;go_returns;exact⟨_,_,rfl,hb1,.inl ⟨by simp;omega,HF.out⟩⟩
def zRm(w w':World)(a b:List UInt8)(v u:Value)(f:Bool):Prop:=
 Below w.heap.size w w'∧((f=false∧dsE a b=none)∨(f=true∧∃xs ys,rsE a=some xs∧rsE b=some ys∧Made w.heap.size w' v xs∧Made w.heap.size w' u ys))
theorem Made.mono{B B':Nat}{w:World}{v:Value}{xs:List Int}(h:Made B w v xs)(hB:B'≤B):Made B' w v xs:=by
 obtain⟨hl,hn|⟨g,cap,cur,rfl,h1,h2⟩⟩:=h
 · exact⟨hl,.inl hn⟩
 · exact⟨hl,.inr ⟨g,cap,cur,rfl,by omega,h2⟩⟩
theorem both_any(a b:ByteArray)(w:World)(ht:Tabs w)(ha:a.size≤9223372036854775807)(hb:b.size≤9223372036854775807):
 Calls Tryz.prog 154 #[.string a,.string b] w fun e w'=>∃v u f,e = .returned (.tuple #[v,u,.bool f])∧zRm w w' a.data.toList b.data.toList v u f:=by
 go_enter Tryz.func154,Tryz.ntmps154;go_upto_region 2 with(go_at_call 177;refine(zP9 a _ ht ha).mono ?_;rintro e w1 ⟨v,f,rfl,hb1,hcase⟩)
 have ht1:Tabs w1:=ht.below hb1;go_upto_region 3 with(go_at_call 177;refine(zP9 b _ ht1 hb).mono ?_;rintro e w2 ⟨u,f2,rfl,hb2,hcase2⟩)
 have hb12:Below w.heap.size w w2:=hb1.trans (hb2.mono hb1.size);have HF:Hid (zRm w w2 a.data.toList b.data.toList v u (f&&f2)):=by
  refine⟨hb12,?_⟩;rcases hcase with⟨rfl,h1⟩|⟨rfl,xs,h1,m1⟩
  · exact .inl ⟨rfl,dsE_left h1⟩
  · rcases hcase2 with⟨rfl,h2⟩|⟨rfl,ys,h2,m2⟩
    · exact .inl ⟨rfl,zWn h2⟩
    · exact .inr ⟨rfl,xs,ys,h1,h2,m1.below hb2,m2.mono hb1.size⟩
 clear hcase hcase2 hb12;cases f
 all_goals
  go_wp2;go_returns;exact⟨_,_,_,rfl,HF.out⟩
def LBlk(w:World)(gl:Nat)(vs:List Value):Prop:=w.heap[gl]?=some (.cells vs.toArray 118 (0,0))
theorem LBlk.lt{w:World}{g:Nat}{vs:List Value}(h:LBlk w g vs):g<w.heap.size:=(Array.getElem?_eq_some_iff.1 h).1
theorem LBlk.cell{w:World}{g k:Nat}{vs:List Value}{x:Value}(h:LBlk w g vs)(hk:vs[k]?=some x):w.cell? ⟨g,k,none⟩=some x:=by
 unfold LBlk at h;simp only[World.cell?,h];simp[hk]
theorem LBlk.frozen{w:World}{g:Nat}{vs:List Value}(h:LBlk w g vs)(k:Nat):w.frozen? ⟨g,k,none⟩=false:=by
 unfold LBlk at h;simp only[World.frozen?,h];simp
theorem LBlk.set{w:World}{g:Nat}{vs:List Value}(h:LBlk w g vs)(k:Nat)(x:Value):LBlk (w.setCell ⟨g,k,none⟩ x) g (vs.set k x):=by
 unfold LBlk at h ⊢;simp only[World.setCell,Array.getElem?_modify,h];simp
def zHq(g W n k:Nat):List Value:=(List.range n).map fun i=>if i<k then .slice (some ⟨g,i*W,none⟩) 0 W else .slice none 0 0
theorem zD0(g W n k:Nat):(zHq g W n k).length=n:=by simp[zHq]
theorem zDa(g W n k:Nat){i:Nat}(h:i<n):(zHq g W n k)[i]?=some (if i<k then .slice (some ⟨g,i*W,none⟩) 0 W else .slice none 0 0):=by
 unfold zHq;rw[List.getElem?_map,List.getElem?_range h];rfl
theorem zT5(g W n k:Nat):(zHq g W n k).set k (.slice (some ⟨g,k*W,none⟩) 0 W)=zHq g W n (k+1):=by
 apply List.ext_getElem?;intro i;rw[List.getElem?_set];by_cases hi:i<n
 · rw[zDa _ _ _ _ hi,zDa _ _ _ _ hi,zD0]
   by_cases e:k=i
   · subst e;rw[if_pos rfl,if_pos hi,if_pos (by omega)]
   · rw[if_neg e]
     by_cases c:i<k
     · rw[if_pos c,if_pos (by omega)]
     · rw[if_neg c,if_neg (by omega)]
 · rw[List.getElem?_eq_none (by rw[zD0];omega),List.getElem?_eq_none (by rw[zD0];omega),zD0]
   split
   · rw[if_neg (by omega)]
   · rfl
theorem zR4(g W n:Nat):zHq g W n 0=List.replicate n (.slice none 0 0):=by
 apply List.ext_getElem?;intro i;by_cases hi:i<n
 · rw[zDa _ _ _ _ hi,if_neg (by omega),List.getElem?_replicate,if_pos hi]
 · rw[List.getElem?_eq_none (by rw[zD0];omega),List.getElem?_eq_none (by simp;omega)]
theorem zV0:(Tryz.prog.info? 118).map (fun i=>(i.zero,i.size,i.bytes))=some (some (.slice none 0 0),1,24):=by kernel_rfl
theorem zMg{w:World}{B g n:Nat}{T:TypeId}{xs:List Value}(h:w.ownsRow B T 1 (.slice (some ⟨g,0,none⟩) n n) n xs):w.heap[g]?=some (.cells xs.toArray T (0,0)):=by
 obtain⟨hl,⟨e,_⟩|⟨g',cap,cur,e,h1,hg,h2,h3,h4,h5⟩⟩:=h
 · cases e
 · simp only[Value.slice.injEq,Option.some.injEq,Addr.mk.injEq]at e
   obtain⟨⟨rfl,_,_⟩,_,rfl⟩:=e;rw[hg];have:cur=xs.toArray:=by
    rw[←h5,List.take_of_length_le (by rw[Array.length_toList,h4];omega)]
   rw[this]
theorem zU4(N:Nat):(madeCells (Value.int .i64 0).cells (N*1)).toList=(List.replicate N (0:Int)).map (Value.int .i64):=by
 rw[show(Value.int .i64 0).cells=#[.int .i64 0]from rfl,Nat.mul_one,toList_madeCells_one,List.map_replicate]
theorem zOl(N:Nat):(madeCells (Value.slice none 0 0).cells (N*1)).toList=List.replicate N (Value.slice none 0 0):=by
 rw[show(Value.slice none 0 0).cells=#[.slice none 0 0]from rfl,Nat.mul_one,toList_madeCells_one]
theorem rows_any(n W:Nat)(w:World)(hn1:1≤n)(hW1:1≤W)(hn:n≤100000)(hW:W≤100000):
 Calls Tryz.prog 155 #[.int .i64 n,.int .i64 W] w fun e w'=>∃g gl,e = .returned (.slice (some ⟨gl,0,none⟩) n n)∧LBlk w' gl (zHq g W n n)∧IBlk w' g (List.replicate (n*W) 0)∧Below w.heap.size w w'∧w.heap.size≤g∧w.heap.size≤gl∧gl≠g:=by
 obtain⟨i0,hi,hz0,hz1,hz2⟩:=info_parts zV1;obtain⟨i1,hi1,hy0,hy1,hy2⟩:=info_parts zV0;obtain⟨N,hN⟩:∃N,N=n*W:=⟨_,rfl⟩;have hNb:N≤10000000000:=by rw[hN];exact Nat.le_trans (Nat.mul_le_mul hn hW) (by decide)
 have hwN:IntKind.i64.wrap ((n:Int)*(W:Int))=(N:Int):=by rw[←Int.natCast_mul,←hN,IntKind.wrap_i64];omega
 have HN:Hid (N=n*W):=hN;rw[←hN];clear hN;go_enter Tryz.func155,Tryz.ntmps155;go_upto_region 2 with(at_make;refine wpList_make_full _ rfl _ _ 118 rfl w.heap.size 3 i0 (.int .i64 0) 1 Tryz.underlying118 hi hz0 hz1 _ _ _ _ N rfl rfl rfl rfl (by rw[hz2];omega) (by unfold maxLen;omega) (Nat.le_refl _) ?_;intro w1 hown1 hgrow1)
 have hI1:IBlk w1 w.heap.size (List.replicate N 0):=by
  have:=zMg hown1;unfold IBlk;rw[this,zU4]
 have hs1:=hgrow1.size;have hb1:Below w.heap.size w w1:=(Below.refl _ w).grown hgrow1 (Nat.le_refl _) (fun k hk=>by cases hk);clear hown1 hgrow1;obtain⟨g,hg⟩:∃g,g=w.heap.size:=⟨_,rfl⟩;rw[←hg]at hI1;simp only[←hg];have HG:Hid (g=w.heap.size):=hg;have hgl1:=hI1.lt;clear hg;have HI1:Hid (IBlk w1 g (List.replicate N 0)):=hI1;clear hI1;go_upto_region 3 with(at_make;refine wpList_make_full _ rfl _ _ 232 rfl w1.heap.size 118 i1 (.slice none 0 0) 1 Tryz.underlying232 hi1 hy0 hy1 _ _ _ _ n rfl rfl rfl rfl (by rw[hy2];omega) (by unfold maxLen;omega) (Nat.le_refl _) ?_;intro w2 hown2 hgrow2)
 have hL2:LBlk w2 w1.heap.size (zHq g W n 0):=by
  have:=zMg hown2;unfold LBlk;rw[this,zOl,zR4]
 have hb2:Below w1.heap.size w1 w2:=(Below.refl _ w1).grown hgrow2 (Nat.le_refl _) (fun k hk=>by cases hk);have hI2:IBlk w2 g (List.replicate N 0):=HI1.out.same (hb2.block g hgl1);clear hown2 hgrow2 HI1;obtain⟨gl,hgl⟩:∃gl,gl=w1.heap.size:=⟨_,rfl⟩;rw[←hgl]at hL2;simp only[←hgl];have HGL:Hid (gl=w1.heap.size):=hgl;have hgne:gl≠g:=by omega
 have hb02:Below w.heap.size w w2:=hb1.trans (hb2.mono hb1.size);clear hgl hb1 hb2;go_wp2
 go_loopw [17] (fun i wr=>∃k:Nat,k≤n∧i = .int .i64 k∧LBlk wr gl (zHq g W n k)∧IBlk wr g (List.replicate N 0)∧Below w.heap.size w wr) (fun i _=>n-(intOf i).toNat)
 case atStart=>exact⟨0,by omega,rfl,hL2,hI2,hb02⟩
 case round=>
  obtain⟨k,hk,rfl,hL,hI,hbel⟩:=hrel;by_cases hlt:k<n
  · have hc:wr.cell? ⟨gl,k,none⟩=some (.slice none 0 0):=hL.cell (by rw[zDa _ _ _ _ hlt,if_neg (by omega)])
    have hf:=hL.frozen k;obtain⟨m,hm⟩:∃m,m=k*W:=⟨_,rfl⟩;have hmN:m+W≤N:=by
     rw[hm,HN.out];have:=Nat.mul_le_mul_right W (show k+1≤n from hlt);rw[Nat.add_mul]at this;omega
    (have hwm:IntKind.i64.wrap ((k:Int)*(W:Int))=(m:Int):=by rw[←Int.natCast_mul,←hm,IntKind.wrap_i64];omega);have HL:Hid (LBlk (wr.setCell ⟨gl,k,none⟩ (.slice (some ⟨g,m,none⟩) 0 W)) gl (zHq g W n (k+1))):=by
     have:=hL.set k (.slice (some ⟨g,m,none⟩) 0 W);rw[hm,zT5]at this;rw[hm];exact this
    have HI:Hid (IBlk (wr.setCell ⟨gl,k,none⟩ (.slice (some ⟨g,m,none⟩) 0 W)) g (List.replicate N 0)):=hI.same (Below.heap_setCell _ _ _ _ (fun e=>hgne e.symm));have HB:Hid (Below w.heap.size w (wr.setCell ⟨gl,k,none⟩ (.slice (some ⟨g,m,none⟩) 0 W))):=hbel.setCell (by show w.heap.size≤gl;have:=HG.out;have:=HGL.out;omega) _;clear hL hI hm;go_wp2
    go_roundw
    (case rel=>exact⟨k+1,by omega,by go_num,HL.out,HI.out,HB.out⟩);case measure=>simp[intOf];omega
  · obtain rfl:k=n:=by omega
    go_wp2;go_ret;exact⟨g,gl,rfl,hL,hI,hbel,by have:=HG.out;omega,by have:=HG.out;have:=HGL.out;omega,hgne⟩
theorem zNv(a b:ByteArray)(w:World)(ht:Tabs w)(ha:a.size≤9223372036854775807)(hb:b.size≤9223372036854775807):
 Calls Tryz.prog 122 #[.string a,.string b] w fun e w'=>e = .returned (dsV (dsE a.data.toList b.data.toList))∧Below w.heap.size w w':=by
 go_enter Tryz.func122,Tryz.ntmps122;go_upto_region 2 with(go_at_call 154;refine(both_any a b _ ht ha hb).mono ?_;rintro e w1 ⟨vx,vy,f,rfl,hbo⟩)
 obtain⟨hb1,⟨rfl,hno⟩|⟨rfl,xs,ys,h1,h2,m1,m2⟩⟩:=hbo
 · have HF:Hid (dsE a.data.toList b.data.toList=none):=hno
   clear hno;go_wp2;go_ret2;exact⟨by rw[HF.out];rfl,hb1⟩
 have HF:Hid (dsE a.data.toList b.data.toList=some (lv xs ys)):=zQ8 h1 h2;have hxl:=(zT4 h1).2;have hyl:=(zT4 h2).2;clear h1 h2;have HX:Hid (RunesAt w1.heap.size w1 vx xs):=m1.runesE;have HY:Hid (RunesAt w1.heap.size w1 vy ys):=m2.runesE;clear m1 m2;obtain⟨adx,capx,rfl⟩:=HX.out.form;obtain⟨ady,capy,rfl⟩:=HY.out.form;obtain⟨W,hW⟩:∃W,W=ys.length+1:=⟨_,rfl⟩;have hwW:IntKind.i64.wrap ((ys.length:Int)+1)=(W:Int):=by rw[IntKind.wrap_i64];omega
 have HW:Hid (W=ys.length+1):=hW;have hW1:1≤W:=by omega
 have hW2:W≤2000:=by omega
 clear hW;go_upto_region 5 with(go_at_call 155;refine(rows_any 2 W _ (by omega) hW1 (by omega) (by omega)).mono ?_;rintro e w2 ⟨g,gl,rfl,hL,hI,hb2,hg1,hg2,hgne⟩)
 have hL0:w2.drew.cell? ⟨gl,0,none⟩=some (.slice (some ⟨g,0,none⟩) 0 W):=hL.cell (by rw[zDa _ _ _ _ (by omega)];simp);have hL1:w2.drew.cell? ⟨gl,1,none⟩=some (.slice (some ⟨g,W,none⟩) 0 W):=hL.cell (by rw[zDa _ _ _ _ (by omega)];simp);have hS0:w2.drew.cell? ⟨gl,0,none⟩=some (.slice (some ⟨g,0,none⟩) 0 W)∧w2.drew.cell? ⟨gl,1,none⟩=some (.slice (some ⟨g,W,none⟩) 0 W):=⟨hL0,hL1⟩;have HST:=zTv w2.drew g 0 W _ ys (show IBlk w2.drew g _ from hI) (by have:=HW.out;omega) (by simp;have:=HW.out;omega) (by omega);have hgll:gl<w2.drew.heap.size:=hL.lt;have hgl2:g<w2.drew.heap.size:=hI.lt;refine zAf (S:=fun W'=>W'.cell? ⟨gl,0,none⟩=some (.slice (some ⟨g,0,none⟩) 0 W)∧W'.cell? ⟨gl,1,none⟩=some (.slice (some ⟨g,W,none⟩) 0 W)) 11 rfl zAn hS0 (fun _=>?_);refine tq4 id 0 27 1 28 2 29 3 30 ?_;simp only[sZa,sZb,sZc];refine tq4 id 4 31 6 33 7 34 8 35 ?_;simp only[sZa,sZb,sZc];refine oc 5 w2.drew 32 156 #[.slice (some ⟨g,0,none⟩) 0 W,.int .i64 ys.length] ?_;refine HST.mono ?_;rintro e w3 ⟨rfl,hI3,hb3⟩;have hS3:w3.cell? ⟨gl,0,none⟩=some (.slice (some ⟨g,0,none⟩) 0 W)∧w3.cell? ⟨gl,1,none⟩=some (.slice (some ⟨g,W,none⟩) 0 W):=by
  have e:=hb3.block gl hgll hgne;exact⟨(World.cell?_of_block (a:=⟨gl,0,none⟩) e).trans hS0.1,(World.cell?_of_block (a:=⟨gl,1,none⟩) e).trans hS0.2⟩
 refine⟨_,rfl,hS3,fun _=>?_⟩;simp only[sZa,sZb,sZc];refine zAo (i:=9) (v := .slice (some ⟨g,0,none⟩) (ys.length+1) W) (w':=w3) 10 (by kernel_rfl) rfl rfl (by rfl) (by kernel_rfl) hS3 (fun _=>?_);simp only[sZa,sZb,sZc];refine zAo (i:=10) (v := .slice (some ⟨g,W,none⟩) 0 W) (w':=w3) 11 (by kernel_rfl) rfl rfl (by rfl) (by kernel_rfl) hS3 (fun _=>?_);simp only[sZa,sZb,sZc];refine wpAnyH_done (by kernel_rfl) ?_ _;have hE3:Below w1.heap.size w1 w3:=by
  have h:=hb3.below (B:=w1.heap.size) hg1 hb2.size;exact⟨h.os.trans hb2.os,h.tape.trans hb2.tape,h.output.trans hb2.output,Nat.le_trans hb2.size h.size,fun k hk=>(h.block k hk).trans (hb2.block k hk)⟩
 have HI3:Hid (IBlk w3 g (lay (List.replicate (2*W) 0) 0 (dr [] ys))):=hI3;clear hS0 hS3 hL0 hL1 HST hI3 hL hI hb3 hb2 hgll hgl2;go_wp2
 go_loopw [10,11,38] (fun v u i wr=>∃(k fa fb q:Nat) (cs:List Int),k≤xs.length∧i = .int .i64 k∧v = .slice (some ⟨g,fa,none⟩) (ys.length+1) W∧u = .slice (some ⟨g,fb,none⟩) q W∧((fa=0∧fb=W)∨(fa=W∧fb=0))∧cs.length=2*W∧IBlk wr g cs∧(∀j,j≤ys.length→cs[fa+j]?=some (lv (xs.take k) (ys.take j):Int))∧Below w1.heap.size w1 wr) (fun _ _ i _=>xs.length-(intOf i).toNat)
 case atStart=>
  have hlen:0+(dr [] ys).length≤(List.replicate (2*W) (0:Int)).length:=by rw[zH9,List.length_replicate];have:=HW.out;omega
  refine⟨0,0,W,0,_,Nat.zero_le _,rfl,rfl,rfl,.inl ⟨rfl,rfl⟩,?_,HI3.out,fun j hj=>?_,hE3⟩
  · rw[zKz hlen,List.length_replicate]
  · rw[zVl hlen (by rw[zH9];omega),zM8 _ _ hj];simp
 case round=>
  obtain⟨k,fa,fb,q,cs,hk,rfl,rfl,rfl,hfab,hcl,hI,hA,hbel⟩:=hrel;have HI:Hid (IBlk wr g cs):=hI;have HA:Hid (∀j,j≤ys.length→cs[fa+j]?=some (lv (xs.take k) (ys.take j):Int)):=hA;have HC:Hid (cs.length=2*W):=hcl;have HAB:Hid ((fa=0∧fb=W)∨(fa=W∧fb=0)):=hfab;clear hI hA hcl hfab;by_cases hlt:k<xs.length
  · obtain⟨r,hr⟩:∃r,xs[k]?=some r:=⟨_,List.getElem?_eq_getElem hlt⟩
    obtain⟨gx,offx,rfl,hgx,hcx⟩:=(HX.out.below hbel).at hr;(have HT:Hid (xs.take (k+1)=xs.take k++[r]):=by unfold Hid;rw[List.take_add_one,hr];rfl);clear hr;go_wp2_with (go_at_call 157;refine(next_any wr g fb fa W W cs (xs.take k) ys r _ w1.heap.size HI.out (by have:=HW.out;omega) (by have:=HC.out;have:=HW.out;rcases HAB.out with h|h<;>omega) HA.out (by have:=HW.out;rcases HAB.out with h|h<;>omega) (HY.out.below hbel) hg1 (by omega) (by rw[List.length_take];omega)).mono ?_;rintro e w4 ⟨rfl,hI4,hb4⟩);have hlen:Hid (fb+(dr (xs.take k++[r]) ys).length≤cs.length):=by unfold Hid;rw[zH9,HC.out];have:=HW.out;rcases HAB.out with h|h<;>omega
    go_roundw
    case rel=>
     refine⟨k+1,fb,fa,_,_,by omega,by go_num,rfl,rfl,by rcases HAB.out with h|h;exact .inr ⟨h.2,h.1⟩;exact .inl ⟨h.2,h.1⟩,?_,hI4,fun j hj=>?_,?_⟩
     · rw[zKz hlen.out];exact HC.out
     · rw[zVl hlen.out (by rw[zH9];omega),zM8 _ _ hj,HT.out]
     · exact hbel.trans (hb4.below hg1 hbel.size)
    case measure=>simp[intOf];omega
  · obtain rfl:k=xs.length:=by omega
    have hc:wr.cell? ⟨g,fa+ys.length,none⟩=some (.int .i64 (lv xs ys:Int)):=by
     have:=HA.out ys.length (Nat.le_refl _);rw[List.take_of_length_le (Nat.le_refl _),List.take_of_length_le (Nat.le_refl _)]at this;exact HI.out.cell this
    go_wp2;go_ret2;exact⟨by rw[HF.out];rfl,hb1.trans (hbel.mono hb1.size)⟩
def lvF:Nat→List Int→List Int→Nat
 |0,xs,ys=>xs.length+ys.length
 |_+1,[],ys=>ys.length
 |_+1,_::xs,[]=>xs.length+1
 |f+1,x::xs,y::ys=>min (lvF f xs ys+if x=y then 0 else 1) (min (lvF f xs (y::ys)+1) (lvF f (x::xs) ys+1))
theorem zQp:∀(f:Nat) (xs ys:List Int),xs.length+ys.length≤f→lvF f xs ys=lv xs ys
 |0,xs,ys,h=>by
  have e1:xs=[]:=List.length_eq_zero_iff.1 (by omega);subst e1;rw[zCr];simp[lvF]
 |_+1,[],ys,_=>by rw[zCr];rfl
 |_+1,_::xs,[],_=>by rw[zCz];rfl
 |f+1,x::xs,y::ys,h=>by
  simp only[List.length_cons]at h;rw[zD8,lvF,zQp f xs ys (by omega),zQp f xs (y::ys) (by simp only[List.length_cons];omega),zQp f (x::xs) ys (by simp only[List.length_cons];omega)]
end
section
open Go.RowKit Nums Ed
attribute [local go_sem ↓] zKb
end
section
open Go.RowKit Nums Ed
end
section
open Go.RowKit Nums Ed
def max2(a b:Int):Int:=if a<b then b else a
theorem run_max2(ts:Array TypeId)(ty:TypeId)(k:IntKind)(a b:Int)(w:World):(Builtin.max_ ts ty #[.int k a,.int k b]).run Tryz.prog w = .ok (.int k (max2 a b)) w:=by
 simp[Builtin.max_,Builtin.max2,max2,Sem.run_pure]
attribute [local go_sem ↓] run_max2
end
section
open Go.RowKit Nums Ed Lv
abbrev bv(n:Nat):Value := .int .u8 (n:Int)
def rC(v:List Nat):Array Value:=(v.map bv).toArray
def rV(v:List Nat):Value := .agg (rC v)
theorem zOf(v:List Nat):(rC v).size=v.length:=by simp[rC]
theorem rC_one(v:List Nat):(rC v).all (·.oneCell')=true:=by
 refine all_oneCell_toArray fun x hx=>?_
 obtain⟨y,_,rfl⟩:=List.mem_map.1 hx;rfl
def celV(v:Value):Array Value:=v.cells
theorem zEj(v:List Nat):celV (rV v)=rC v:=rfl
def zeros:List Nat:=List.replicate 25 0
theorem zJw:zeros=mk fun _=>0:=by simp[zeros,mk,List.map_const']
theorem zBh:zeros.length=25:=by simp[zeros]
theorem rC_zeros:rC zeros=Array.replicate 25 (.int .u8 0):=by
 rw[rC,zeros,List.map_replicate,List.toArray_replicate];rfl
theorem zBn(w:World)(o:Obj):(w.alloc o).heap[w.heap.size]?=some o:=(MapKept.heap_alloc w o).1
theorem zCa(w:World)(o:Obj){k:Nat}(h:k<w.heap.size):(w.alloc o).heap[k]?=w.heap[k]?:=(MapKept.heap_alloc w o).2 k h
theorem zBc(w:World)(o:Obj):(w.alloc o).heap.size=w.heap.size+1:=by simp
def RAt(w:World)(b:Nat)(bs:List Nat):Prop:=w.heap[b]?=some (.cells (rC bs) 137 (0,0))
theorem RAt.lt{w:World}{b:Nat}{bs:List Nat}(h:RAt w b bs):b<w.heap.size:=(Array.getElem?_eq_some_iff.1 h).1
theorem RAt.same{w w':World}{b:Nat}{bs:List Nat}(h:RAt w b bs)(e:w'.heap[b]?=w.heap[b]?):RAt w' b bs:=e.trans h
theorem RAt.below{w w':World}{b B:Nat}{bs:List Nat}(h:RAt w b bs)(hB:b<B)(hb:Below B w w'):RAt w' b bs:=(hb.block b hB).trans h
theorem RAt.new(w:World)(bs:List Nat):RAt (w.alloc (.cells (rC bs) 137)) w.heap.size bs:=zBn _ _
theorem RAt.old{w:World}{b:Nat}{bs:List Nat}(h:RAt w b bs)(o:Obj):RAt (w.alloc o) b bs:=(zCa w o h.lt).trans h
theorem range_rC{w:World}{b:Nat}{v:List Nat}{t:TypeId}{f:Nat×Nat}(h:w.heap[b]?=some (.cells (rC v) t f)):w.rangeAt b 0 (v.map bv):=by
 intro j u hj;simp only[World.cell?,h,Nat.zero_add,rC];simpa using hj
theorem RAt.range{w:World}{b:Nat}{bs:List Nat}(h:RAt w b bs):w.rangeAt b 0 (bs.map bv):=range_rC h
theorem RAt.cell{w:World}{b:Nat}{bs:List Nat}(h:RAt w b bs){i:Nat}(hi:i<bs.length):w.cell? ⟨b,i,none⟩=some (bv (bs.getD i 0)):=by
 have:=h.range i (bv (bs.getD i 0)) (by rw[List.getElem?_map,List.getElem?_eq_getElem hi];simp[List.getD_eq_getElem?_getD,List.getElem?_eq_getElem hi]);simpa using this
theorem RAt.frozen{w:World}{b:Nat}{bs:List Nat}(h:RAt w b bs)(o:Nat):w.frozen? ⟨b,o,none⟩=false:=by
 unfold RAt at h;simp[World.frozen?,h]
theorem RAt.there{w:World}{b:Nat}{bs:List Nat}(h:RAt w b bs)(n:Nat)(hn:n≤bs.length):w.there b 0 n:=fun j hj=>⟨by rw[Nat.zero_add,h.cell (by omega)];rfl,h.frozen _⟩
theorem RAt.set{w:World}{b k x:Nat}{bs:List Nat}(h:RAt w b bs):RAt (w.setCell ⟨b,k,none⟩ (bv x)) b (bs.set k x):=by
 unfold RAt at h ⊢;simp only[World.setCell,Array.getElem?_modify,h];simp[rC,List.map_set]
theorem RAt.off{w:World}{b c k:Nat}{bs:List Nat}{v:Value}(h:RAt w b bs)(hne:b≠c):RAt (w.setCell ⟨c,k,none⟩ v) b bs:=(Below.heap_setCell _ _ _ _ hne).trans h
def spl(C:Array Value):Nat→List Value→Array Value
 |_,[]=>C
 |o,v::r=>spl (C.setIfInBounds o v) (o+1) r
theorem spl_size(vs:List Value):∀(C:Array Value) (o:Nat),(spl C o vs).size=C.size:=by
 induction vs with
 |nil=>intro C o;rfl
 |cons v r ih=>intro C o;rw[spl,ih];simp
theorem spl_get(vs:List Value):∀(C:Array Value) (o i:Nat),i<C.size→(spl C o vs)[i]?=if o≤i∧i<o+vs.length then vs[i-o]? else C[i]?:=by
 induction vs with
 |nil=>intro C o i hi;rw[spl,if_neg];simp
 |cons v r ih=>
  intro C o i hi;rw[spl,ih _ _ _ (by simpa using hi)];by_cases h1:o+1≤i∧i<o+1+r.length
  · rw[if_pos h1,if_pos (by simp;omega)]
    (have e:i-o=(i-(o+1))+1:=by omega);rw[e,List.getElem?_cons_succ]
  · rw[if_neg h1]
    by_cases h2:i=o
    · subst h2
      rw[if_pos (by simp)];simp[hi]
    · rw[if_neg (by simp;omega),Array.getElem?_setIfInBounds_ne (by omega)]
theorem spl_full(C:Array Value)(vs:List Value)(h:vs.length=C.size):spl C 0 vs=vs.toArray:=by
 apply Array.ext_getElem?;intro i;by_cases hi:i<C.size
 · rw[spl_get _ _ _ _ hi,if_pos (by omega)];simp
 · rw[Array.getElem?_eq_none (by rw[spl_size];omega),Array.getElem?_eq_none (by simp;omega)]
structure One(b:Nat)(w w':World):Prop where
 os:w'.os=w.os
 tape:w'.tape=w.tape
 output:w'.output=w.output
 size:w'.heap.size=w.heap.size
 block:∀k,k≠b→w'.heap[k]?=w.heap[k]?
theorem one_set(w:World)(p o:Nat)(v:Value):One p w (w.setCell ⟨p,o,none⟩ v):=⟨rfl,rfl,rfl,by simp[World.setCell],fun k hk=>Below.heap_setCell _ _ _ _ hk⟩
theorem One.trans{p:Nat}{a b c:World}(h:One p a b)(k:One p b c):One p a c:=⟨k.os.trans h.os,k.tape.trans h.tape,k.output.trans h.output,k.size.trans h.size,fun i hi=>(k.block i hi).trans (h.block i hi)⟩
theorem One.below{B p:Nat}{a b c:World}(k:Below B a b)(h:One p b c)(hB:B≤p):Below B a c:=
 k.trans ⟨h.os,h.tape,h.output,Nat.le_of_eq h.size.symm,fun j hj=>h.block j (by omega)⟩
theorem zN7{b:Nat}{t:TypeId}{f:Nat×Nat}(vs:List Value):∀(w:World) (C:Array Value) (o:Nat),w.heap[b]?=some (.cells C t f)→(w.setCells b o vs).heap[b]?=some (.cells (spl C o vs) t f)∧One b w (w.setCells b o vs):=by
 induction vs with
 |nil=>intro w C o h;exact⟨h,⟨rfl,rfl,rfl,rfl,fun _ _=>rfl⟩⟩
 |cons v r ih=>
  intro w C o h;have hs:(w.setCell ⟨b,o,none⟩ v).heap[b]?=some (.cells (C.setIfInBounds o v) t f):=by simp[World.setCell,Array.getElem?_modify,h]
  obtain⟨h1,h2⟩:=ih (w.setCell ⟨b,o,none⟩ v) (C.setIfInBounds o v) (o+1) hs;exact⟨h1,(one_set w b o v).trans h2⟩
def setR(w:World)(b:Nat)(ys:List Nat):World:=w.setCells b 0 (ys.map bv)
theorem RAt.put{w:World}{b:Nat}{bs ys:List Nat}(h:RAt w b bs)(hl:ys.length=bs.length):RAt (setR w b ys) b ys∧One b w (setR w b ys):=by
 obtain⟨h1,h2⟩:=zN7 (ys.map bv) w (rC bs) 0 h;rw[spl_full _ _ (by rw[List.length_map,zOf,hl])]at h1;exact⟨h1,h2⟩
theorem zG6:(Tryz.prog.info? 137).map (fun i=>(i.zero,i.size,i.bytes))=some (some (.agg (Array.replicate 25 (.int .u8 0))),25,25):=by kernel_rfl
theorem zero_Row(w:World):(zeroValue 137).run Tryz.prog w = .ok (rV zeros) w:=by
 obtain⟨i,hi,hz,hs,hb⟩:=info_parts zG6;rw[rV,rC_zeros];simp[zeroValue,typeInfo,hi,hz,Result.andThen]
def zGi(P:Program)(x:Value)(w:World):Result Value:=(Instr.loadAt 137 x).run P w
def zI2(P:Program)(x y:Value)(w:World):Result Unit:=(Instr.storeAt 137 x y).run P w
section
variable (ρ:Operand→Value) (x y:Operand) (dst:Option Tmp) (ty:TypeId) (pos:String) (af:Array Edge) (g:Option (Nat×Bool)) (w:World)
theorem zA9:(execOp ρ ⟨dst,.alloc 137,ty,pos,af,g⟩).run Tryz.prog w = .ok (.value (.pointer (some ⟨w.heap.size,0,none⟩))) (w.alloc (.cells (rC zeros) 137)):=by
 simp only[execOp,Sem.run_bind,Instr.alloc,zero_Row,Result.andThen,newVar,newRow];rfl
theorem zCl:(execOp ρ ⟨dst,.box 137 x,ty,pos,af,g⟩).run Tryz.prog w = .ok (.value (.pointer (some ⟨w.heap.size,0,none⟩))) (w.alloc (.cells (celV (ρ x)) 137)):=by
 simp only[execOp,Sem.run_bind,Instr.box,newVar,newRow];rfl
theorem zAy:(execOp ρ ⟨dst,.load 137 x,ty,pos,af,g⟩).run Tryz.prog w=(zGi Tryz.prog (ρ x) w).andThen (fun v w' => .ok (.value v) w'):=by
 simp only[execOp,Sem.run_bind,zGi,Sem.run_pure]
theorem zA8:(execOp ρ ⟨dst,.store 137 x y,ty,pos,af,g⟩).run Tryz.prog w=(zI2 Tryz.prog (ρ x) (ρ y) w).andThen (fun _ w' => .ok .skip w'):=by
 simp only[execOp,Sem.run_bind,zI2,Sem.run_pure]
end
theorem zBm{w:World}{b o:Nat}{bs:List Nat}(h:w.rangeAt b o (bs.map bv))(hl:bs.length=25):zGi Tryz.prog (.pointer (some ⟨b,o,none⟩)) w = .ok (rV bs) w:=by
 obtain⟨i,hi,hz,hs,hb⟩:=info_parts zG6;have:=run_loadVar_mid (P:=Tryz.prog) w b o 137 (bs.map bv) _ h Tryz.underlying137 rfl (by rw[hi];simp[hs,hl]);simp only[zGi,Instr.loadAt,Instr.sureAddr,Sem.run_bind,Sem.run_pure,Result.andThen_ok,this];rfl
theorem zCo{w:World}{b:Nat}{bs vs:List Nat}(h:RAt w b bs)(hl:bs.length=25)(hv:vs.length=25):zI2 Tryz.prog (.pointer (some ⟨b,0,none⟩)) (rV vs) w = .ok () (setR w b vs):=by
 obtain⟨i,hi,hz,hs,hb⟩:=info_parts zG6;rw[zI2,rV,run_storeAt_mid _ _ _ _ (rC vs) (by rw[zOf];exact h.there _ (by omega)) (by rw[hi,zOf];simp[hs,hv]) (rC_one vs)];simp[setR,rC]
theorem zOb{fn:Func}{R:Ending→World→Prop}{a:Act}{w:World}{b s:Nat}{bs:List Nat}(hf:fn.results=#[.cell s 137])(hs:a.tmps[s]?=some (.pointer (some ⟨b,0,none⟩)))(hl:bs.length=25)(h:RAt w b bs)(hd:a.defers=[])(hR:R (.returned (rV bs)) w):bodyPost Tryz.prog fn R .ret a w:=by
 refine bodyPost_ret ?_ hd hR;obtain⟨i,hi,hz,hz1,hb⟩:=info_parts zG6;have h2:=run_loadVar_mid (P:=Tryz.prog) w b 0 137 (bs.map bv) _ h.range Tryz.underlying137 rfl (by rw[hi];simp[hz1,hl]);simp[results,hf,hs,asAddr];exact h2
theorem zUd{l:List Nat}(h:∀x∈l,x<256):rC l=((l.map UInt8.ofNat).map Extern.Stop.cell).toArray:=by
 unfold rC;congr 1;rw[List.map_map];refine List.map_congr_left fun x hx=>?_
 have hx2:=h x hx;simp[Extern.Stop.cell,Nat.mod_eq_of_lt hx2]
theorem ofNat_inj:∀{l m:List Nat},(∀x∈l,x<256)→(∀x∈m,x<256)→l.map UInt8.ofNat=m.map UInt8.ofNat→l=m
 |[],[],_,_,_=>rfl
 |[],_::_,_,_,h=>by simp at h
 |_::_,[],_,_,h=>by simp at h
 |x::l,y::m,h1,h2,h=>by
  simp only[List.map_cons,List.cons.injEq]at h;have hx:=h1 x (.head _);have hy:=h2 y (.head _);have h3:=congrArg UInt8.toNat h.1;simp[Nat.mod_eq_of_lt hx,Nat.mod_eq_of_lt hy]at h3;rw[h3,ofNat_inj (fun z hz=>h1 z (.tail _ hz)) (fun z hz=>h2 z (.tail _ hz)) h.2]
theorem infoB:(Tryz.prog.info? 5).map (fun i=>(i.zero,i.size,i.bytes))=some (some (.int .u8 0),1,1):=by kernel_rfl
theorem eql_row{bs cs:List Nat}(hb:bs.length=25)(hc:cs.length=25)(h1:∀x∈bs,x<256)(h2:∀x∈cs,x<256)(w:World):
 (binOp .eql 137 (rV bs) (rV cs)).run Tryz.prog w = .ok (.bool (decide (bs=cs))) w:=by
 obtain⟨i0,hi,hz0,hz1,hz2⟩:=info_parts infoB;have hsz:∀w,(sizeOf 5).run Tryz.prog w = .ok 1 w:=fun w=>by simp[sizeOf,typeInfo,hi,hz1,Result.andThen]
 unfold rV;rw[zUd h1,zUd h2,run_eql_bytes w 137 5 25 Tryz.underlying137 Tryz.underlying5 hsz _ _ (by simpa using hb) (by simpa using hc)];congr 2;rw[Bool.eq_iff_iff,beq_iff_eq,decide_eq_true_iff];exact⟨ofNat_inj h1 h2,fun h=>by rw[h]⟩
theorem neq_row{bs cs:List Nat}(hb:bs.length=25)(hc:cs.length=25)(h1:∀x∈bs,x<256)(h2:∀x∈cs,x<256)(w:World):
 (binOp .neq 137 (rV bs) (rV cs)).run Tryz.prog w = .ok (.bool (!decide (bs=cs))) w:=by
 have h:=eql_row hb hc h1 h2 w;unfold rV at h ⊢;rw[run_eql_struct]at h;rw[run_neq_struct];generalize (Op.equalIn 10000 137 (.agg (rC bs)) (.agg (rC cs))).run Tryz.prog w=o at h ⊢;cases o with
 |ok b w1=>
  simp only[Result.andThen_ok,Result.ok.injEq,Value.bool.injEq]at h;obtain⟨rfl,rfl⟩:=h;rfl
 |_=>simp[Result.andThen]at h
theorem zV8(op:BinOp)(x y:Operand)(bs cs:List Nat)(W:World):(eqGuard op 137 x y (rV bs) (rV cs)).run Tryz.prog W = .ok () W:=run_eqGuard_agg W _ _ x y _ _ (by kernel_rfl)
end
section
open Go.RowKit Nums Ed Lv
def levC(v:Value)(bs:List Nat):Array Value:=(v::bs.map bv).toArray
structure LevAt(w:World)(p:Nat)(xs:List Int)(d:Nat):Prop where
 len:xs.length≤24
 few:d≤3
 ex:∃ad cap,w.heap[p]?=some (.cells (levC (.slice ad xs.length cap) (zE9 xs.length d)) 178 (0,0))∧RunesAt w.heap.size w (.slice ad xs.length cap) xs
theorem LevAt.below{w w':World}{p:Nat}{xs:List Int}{d:Nat}(h:LevAt w p xs d)(hb:Below w.heap.size w w'):LevAt w' p xs d:=by
 obtain⟨h1,h2,ad,cap,hp,hr⟩:=h;exact⟨h1,h2,ad,cap,(hb.block p (Array.getElem?_eq_some_iff.1 hp).1).trans hp,(hr.below hb).mono hb.size⟩
theorem LevAt.lt{w:World}{p:Nat}{xs:List Int}{d:Nat}(h:LevAt w p xs d):p<w.heap.size:=by
 obtain⟨_,_,ad,cap,hp,_⟩:=h;exact(Array.getElem?_eq_some_iff.1 hp).1
theorem zFq{w:World}{p:Nat}{v:Value}{bs:List Nat}{t:TypeId}{f:Nat×Nat}(h:w.heap[p]?=some (.cells (levC v bs) t f)):w.rangeAt p 1 (bs.map bv):=by
 intro j u hj;simp only[World.cell?,h,levC];simpa[Nat.add_comm]using hj
theorem zQt{w:World}{p:Nat}{v:Value}{bs:List Nat}{t:TypeId}{f:Nat×Nat}(h:w.heap[p]?=some (.cells (levC v bs) t f)):w.cell? ⟨p,0,none⟩=some v:=by
 simp[World.cell?,h,levC]
theorem zEc(n d:Nat):(zE9 n d).length=25:=zCx _
theorem zWr(n d:Nat){j:Nat}(h:j<25):(zE9 n d).getD j 0=dd n d j:=zDo _ h
theorem lev_dead{w:World}{p:Nat}{v:Value}{n d:Nat}{t:TypeId}{f:Nat×Nat}(h:w.heap[p]?=some (.cells (levC v (zE9 n d)) t f)){j:Nat}(hj:j<25):w.cell? ⟨p,1+j,none⟩=some (bv (dd n d j)):=by
 have:=zFq h j (bv (dd n d j)) (by rw[List.getElem?_map,zE9,zHw _ hj];rfl);simpa using this
theorem zV2(bs:List Nat)(j:Nat)(hj:j<bs.length)(hl:bs.length=25)(w:World):(Instr.index 137 (rV bs) (.int .i64 (j:Int))).run Tryz.prog w = .ok (bv (bs.getD j 0)) w:=by
 obtain⟨i0,hi,hz0,hz1,hz2⟩:=info_parts infoB;have hsz:(sizeOf 5).run Tryz.prog w = .ok 1 w:=by simp[sizeOf,typeInfo,hi,hz1,Result.andThen]
 have hc:(rC bs)[j]?=some (bv (bs.getD j 0)):=by
  simp[rC,List.getD_eq_getElem?_getD,List.getElem?_eq_getElem hj]
 simp[Instr.index,rV,run_underlying Tryz.underlying137,asIntOf,part,hsz,hc,go_sem];omega
def min2(a b:Int):Int:=if b<a then b else a
theorem run_min2(ts:Array TypeId)(ty:TypeId)(k:IntKind)(a b:Int)(w:World):(Builtin.min_ ts ty #[.int k a,.int k b]).run Tryz.prog w = .ok (.int k (min2 a b)) w:=by
 simp[Builtin.min_,Builtin.min2,min2,Sem.run_pure]
attribute [local go_sem ↓] zA9 zCl zAy zA8 run_min2
attribute [local go_sem] zEj
theorem zLa(p:Nat)(xs:List Int)(d:Nat)(s:List Nat)(w:World)(h:LevAt w p xs d)(hs:s.length=25):
 Calls Tryz.prog 119 #[.pointer (some ⟨p,0,none⟩),rV s] w fun e w'=>e = .returned (rV (cutL xs.length d s))∧Below w.heap.size w w':=by
 obtain⟨hn,hd,ad,cap,hp,hr⟩:=h;have hpl:p<w.heap.size:=(Array.getElem?_eq_some_iff.1 hp).1;obtain⟨w2,hw2⟩:∃w2,(w.alloc (.cells (rC s) 137)).alloc (.cells (rC zeros) 137)=w2:=⟨_,rfl⟩;have A2:Hid (RAt w2 w.heap.size s):=hw2▸(RAt.new w _).old _;have C2:Hid (RAt w2 (w.heap.size+1) zeros):=by
  have:=RAt.new (w.alloc (.cells (rC s) 137)) zeros;rw[zBc]at this;exact hw2▸this
 have B2:Hid (Below w.heap.size w w2):=hw2▸((Below.refl _ w).alloc (Nat.le_refl _) _).alloc (by simp) _;have HW:Hid ((w.alloc (.cells (rC s) 137)).alloc (.cells (rC zeros) 137)=w2):=hw2;have hld:=zBm (zFq ((B2.out.block p hpl).trans hp)) (zEc xs.length d);clear hw2 hr hp;go_enter Tryz.func119,Tryz.ntmps119;go_wp2_with fail;rw[HW.out,hld];clear HW hld;go_wp2_with fail
 go_loopw [11] (fun v wr=>∃k:Nat,v = .int .i64 k∧k≤25∧RAt wr w.heap.size (cutK xs.length d s k)∧RAt wr (w.heap.size+1) zeros∧Below w.heap.size w wr) (fun v _=>25-(intOf v).toNat)
 case atStart=>exact⟨0,rfl,by omega,by rw[zWt hs];exact A2.out,C2.out,B2.out⟩
 case round=>
  clear A2 C2 B2;obtain⟨k,rfl,hk,hA,hC,hB⟩:=hrel;have HA:Hid (RAt wr w.heap.size (cutK xs.length d s k)):=hA;have HC:Hid (RAt wr (w.heap.size+1) zeros):=hC;have HB:Hid (Below w.heap.size w wr):=hB;have hwr:w.heap.size+1<wr.heap.size:=hC.lt;by_cases hk8:k<25
  · have hcell:=hA.cell (i:=k) (by rw[cutK_len];exact hk8)
    rw[cutK_get _ _ _ hk8]at hcell;have hfz:=hA.frozen k;(have hix:=fun w=>zV2 (zE9 xs.length d) k (by rw[zEc];exact hk8) (zEc _ _) w);rw[zWr _ _ hk8]at hix;obtain⟨x,hx⟩:∃x,s.getD k 0=x:=⟨_,rfl⟩;obtain⟨y,hy⟩:∃y,dd xs.length d k=y:=⟨_,rfl⟩;have HM:Hid (min2 (x:Int) (y:Int)=(cutF xs.length d s k:Int)):=by
     unfold Hid min2 cutF;rw[hx,hy];split<;>omega
    rw[hx]at hcell;rw[hy]at hix;clear hA hC hB hx hy;go_wp2_with fail;rw[HM.out]
    go_roundw
    case rel=>
     refine⟨k+1,by go_num,by omega,?_,HC.out.off (by omega),HB.out.setCell (Nat.le_refl _) _⟩;rw[←zWu _ _ _ hk8];exact HA.out.set
    case measure=>simp[intOf];omega
  · obtain rfl:k=25:=by omega
    rw[cutK_end]at hA;have hld:=zBm hA.range (zDs xs.length d s);have hst:=zCo hC zBh (zDs xs.length d s);obtain⟨HP,HO⟩:=hC.put (ys:=cutL xs.length d s) (by rw[zDs,zBh]);have HBS:Hid (Below w.heap.size w (setR wr (w.heap.size+1) (cutL xs.length d s))):=HO.below hB (by omega);obtain⟨w5,hw5⟩:∃w5,setR wr (w.heap.size+1) (cutL xs.length d s)=w5:=⟨_,rfl⟩;rw[hw5]at hst HP HBS;have HST:Hid (RAt w5 (w.heap.size+1) (cutL xs.length d s)):=HP;clear hA hC hB HA HC HB hw5 HO HP;go_wp2_with fail;exact zOb Tryz.results119 rfl (zDs _ _ _) HST.out rfl ⟨rfl,HBS.out⟩
theorem zXn(p:Nat)(xs:List Int)(d:Nat)(w:World)(h:LevAt w p xs d):
 Calls Tryz.prog 76 #[.pointer (some ⟨p,0,none⟩)] w fun e w'=>e = .returned (rV (zFh xs.length d))∧Below w.heap.size w w':=by
 have HL:Hid (LevAt w p xs d):=h;obtain⟨w2,hw2⟩:∃w2,(w.alloc (.cells (rC zeros) 137)).alloc (.cells (rC zeros) 137)=w2:=⟨_,rfl⟩;have A2:Hid (RAt w2 w.heap.size zeros):=hw2▸(RAt.new w _).old _;have C2:Hid (RAt w2 (w.heap.size+1) zeros):=by
  have:=RAt.new (w.alloc (.cells (rC zeros) 137)) zeros;rw[zBc]at this;exact hw2▸this
 have B2:Hid (Below w.heap.size w w2):=hw2▸((Below.refl _ w).alloc (Nat.le_refl _) _).alloc (by simp) _;have HW:Hid ((w.alloc (.cells (rC zeros) 137)).alloc (.cells (rC zeros) 137)=w2):=hw2;clear hw2 h;go_enter Tryz.func76,Tryz.ntmps76;go_wp2_with fail;rw[HW.out];clear HW
 go_loopw [5] (fun v wr=>∃k:Nat,v = .int .i64 k∧k≤25∧RAt wr w.heap.size zeros∧RAt wr (w.heap.size+1) (risK k)∧Below w.heap.size w wr) (fun v _=>25-(intOf v).toNat)
 case atStart=>exact⟨0,rfl,by omega,A2.out,by rw[zT8,←zJw];exact C2.out,B2.out⟩
 case round=>
  clear A2 C2 B2;obtain⟨k,rfl,hk,hA,hC,hB⟩:=hrel;have HA:Hid (RAt wr w.heap.size zeros):=hA;have HC:Hid (RAt wr (w.heap.size+1) (risK k)):=hC;have HB:Hid (Below w.heap.size w wr):=hB;have hwr:w.heap.size+1<wr.heap.size:=hC.lt;by_cases hk8:k<25
  · have hcell:=hC.cell (i:=k) (by rw[risK,zCx];exact hk8)
    have hfz:=hC.frozen k;(have hwk:(k:Int)%256=(k:Int):=by omega);clear hA hC hB;go_wp2_with fail
    go_roundw
    case rel=>
     refine⟨k+1,by go_num,by omega,HA.out.off (by omega),?_,HB.out.setCell (by show w.heap.size≤w.heap.size+1;omega) _⟩;rw[←zT9 hk8];exact HC.out.set
    case measure=>simp[intOf];omega
  · obtain rfl:k=25:=by omega
    rw[risK_end]at hC;have hld:=zBm hC.range (zCx _);have HL2:Hid (LevAt wr p xs d):=HL.out.below hB;have HA2:Hid (RAt wr w.heap.size zeros):=hA;have hB2:Hid (Below w.heap.size w wr):=hB;clear hA hC hB HA HC HB;go_wp2_with (go_at_call 119;refine(zLa p xs d _ _ HL2.out (zCx _)).mono ?_;rintro e w4 ⟨rfl,hb4⟩);have hC4:RAt w4 w.heap.size zeros:=HA2.out.below (by omega) hb4;have hst:=zCo hC4 zBh (zGa xs.length d);obtain⟨HP,HO⟩:=hC4.put (ys:=zFh xs.length d) (by rw[zGa,zBh]);have HBS:Hid (Below w.heap.size w (setR w4 w.heap.size (zFh xs.length d))):=HO.below (hB2.out.trans (hb4.mono (by omega))) (Nat.le_refl _);obtain⟨w5,hw5⟩:∃w5,setR w4 w.heap.size (zFh xs.length d)=w5:=⟨_,rfl⟩;rw[hw5]at hst HP HBS;have HST:Hid (RAt w5 w.heap.size (zFh xs.length d)):=HP;clear hC4 hw5 HO HP;rw[show cutL xs.length d (mk fun j=>j)=zFh xs.length d from rfl];rw[hst];go_wp2_with fail;exact zOb Tryz.results76 rfl (zGa _ _) HST.out rfl ⟨rfl,HBS.out⟩
end
