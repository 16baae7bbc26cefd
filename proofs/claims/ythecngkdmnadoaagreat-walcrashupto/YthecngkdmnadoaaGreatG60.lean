/- Texts that were written apart, joined. -/
import Derived.Test.YthecngkdmnadoaaGreatG45
import Derived.Test.YthecngkdmnadoaaGreatG50
import Derived.Test.YthecngkdmnadoaaGreatG52
import Derived.Shelf.SlicesE.Clone
import Derived.Ground.SlgnProg
import Derived.Test.YthecngkdmnadoaaGreatG06
import Derived.Test.YthecngkdmnadoaaGreatDrawn
import Derived.Test.YthecngkdmnadoaaGreatG23
import Derived.Test.YthecngkdmnadoaaGreatRows
import Derived.Deep.Strs
import Derived.Lib.SmallJoins
import Derived.Test.YthecngkdmnadoaaGreatG44
namespace Go.Proofs.YthecngkdmnadoaaGreat
open Go.RowKit
set_option maxRecDepth 100000
theorem DiskAt.lower{N K:Nat}{w:World}{p:Nat}{d:DS}{fp:List Nat}(h:DiskAt N w p d fp)(h1:d.steps≤K)(h2:d.secs.length≤K)(h3:∀s∈d.secs,s.fresh=[]):DiskAt K w p d fp:=by
 obtain⟨sh,a1,a2,a3,a4,a5,a6,a7,a8,a9,a10,a11,a12,a13⟩:=h;exact⟨sh,a1,a2,a3,a4,a5,a6,a7,a8,h1,h2,a11,fun s hs=>by rw[h3 s hs];exact Nat.zero_le _,a13⟩
theorem crash_lower{N K:Nat}{w:World}{q:Nat}{d:DS}{ps:List Int}{fq:List Nat}(h:DiskAt N w q (crashD d ps) fq)(h2:d.secs.length≤K):DiskAt K w q (crashD d ps) fq:=
 h.lower (by show(0:Int)≤_;omega) (Nat.le_trans (len_crash ps d.secs) h2) (fun s hs=>crashS_fresh hs)
theorem cut_disk{k:Nat}{at_:Int}{M:List SR}{d:DS}(h:(d.dead=true∧0≤at_∧CutD 1 k M d)∨∃g,g.d=d∧CutP 1 k at_ g M):CutD 1 k M d:=by
 rcases h with⟨_,_,h⟩|⟨g,rfl,h⟩
 · exact h
 · exact h.disk
theorem cut_crash{k:Nat}{at_:Int}{M:List SR}{d:DS}(h:(d.dead=true∧0≤at_∧CutD 1 k M d)∨∃g,g.d=d∧CutP 1 k at_ g M)(h1:1≤k)(hk:k≤2000000)(ps:List Int):
 Rdy 1 k (crashD d ps)∧d.secs.length≤60*k∧∃(g:LG) (i:Nat) (r:SR),openG (crashD d ps) 0 1=(0,g)∧CutP 1 k (-1) g [(g.first,g.L)]∧M[i]?=some r∧FitsP g.first g.L r.1 r.2:=by
 have hd:=cut_disk h;obtain⟨hr,r,hm,hf⟩:=hd.crash h1 hk ps;obtain⟨g,hg,hcp,hfo⟩:=Rdy.cut (d:=crashD d ps) hr;obtain⟨i,hi⟩:=List.getElem?_of_mem hm;exact⟨hr,hd.len,g,i,r,hg,hcp,hi,hf.told hfo⟩
theorem WasX.len{F:List Nat}{B:Nat}{w:World}{wv:Value}{M:List SR}(h:WasX F B w wv M):M.length≤9223372036854775807:=by
 obtain⟨xs,h1,h2,h3,h4⟩:=h;obtain⟨_,hlf,⟨ev,h0⟩|⟨g,cap,cur,ev,hb',hh,hnc,hcm,hcs,htake⟩⟩:=id h3
 · rw[List.length_map]at h0;omega
 · rw[List.length_map,h1]at hnc
   simp only[maxLen]at hcm;omega
end Go.Proofs.YthecngkdmnadoaaGreat

namespace Go.Proofs.YthecngkdmnadoaaGreat
open Go.RowKit Go.Shelf
set_option maxRecDepth 100000
shelf_lay_g SlLaysE0.n41 Slgn 41 at Tryz 73 as cloneF
theorem cloneF_any(x:FS)(w:World)(h:x.ok w)(hl:x.vs.length≤1099511627776):
 Calls Tryz.prog 73 #[fsV x] w fun e w'=>∃x':FS,e = .returned (fsV x')∧x'.vs=x.vs∧x'.ok w'∧w.heap.size≤x'.g∧Below w.heap.size w w':=by
 obtain⟨i,hi,hz,hs,hb⟩:=info_parts info_ver;have hsz:∀w,(Go.sizeOf 93).run Tryz.prog w = .ok 64 w:=fun w=>by simp[sizeOf,typeInfo,hi,hs,Result.andThen]
 obtain⟨⟨cur,h1,h2,h3⟩,h4,h5,h6,h7⟩:=h;have hfl:=flat_len x.vs h6;have hc:∀(j:Nat) u,(flat x.vs)[j]?=some u→w.cell? ⟨x.g,0+j,none⟩=some u:=fun j u hj=>by
  have hjl:=(List.getElem?_eq_some_iff.1 hj).1;rw[←h3,List.getElem?_take,if_pos (by omega)]at hj;rw[Nat.zero_add];simpa[World.cell?,h1]using hj
 have hone:∀u∈flat x.vs,u.oneCell'=true:=fun u hu=>by
  obtain⟨v,_,hu⟩:=List.mem_flatMap.1 hu;obtain⟨z,_,rfl⟩:=List.mem_map.1 hu;rfl
 have hcall:Calls Tryz.prog 73 #[.slice (some ⟨x.g,0,none⟩) x.vs.length x.cap] w fun e w'=>∃v',e = .returned v'∧w'.ownsRow w.heap.size 93 64 v' x.vs.length (flat x.vs)∧v' ≠ .slice none 0 0∧Below w.heap.size w w':=
  AnyE.slices_Clone cloneF i _ 64 64 hi hz hs hb (by simp[Value.cells]) (by decide) hsz x.g 0 x.vs.length x.cap (flat x.vs) w hfl (by omega) (by omega) hc hone
 refine hcall.mono ?_;rintro e w' ⟨v',rfl,⟨k1,⟨e1,_⟩|⟨g,cap,c2,rfl,hg,hb2,k2,k3,k4,k5⟩⟩,hne,hbw⟩
 · exact absurd e1 hne
 · exact⟨⟨g,cap,x.vs⟩,rfl,rfl,⟨⟨c2,hb2,k4,k5⟩,k2,k3,h6,h7⟩,hg,hbw⟩
abbrev MF:=List (Int×Nat×List (Int×FS))
structure CopyF(w:World)(q lb0 mb:Nat)(L0:List (Int×Nat×List (Int×List Nat)))(wr:World)(M:MF)(f:Int→Int→Option (List (List Nat))):Prop where
 held:Held wr ⟨lb0,mb,L0,M⟩
 nd:(q::Sh.blocks ⟨lb0,mb,L0,M⟩).Nodup
 ql:q<w.heap.size
 get:∀a n,(fsGet M a n).map FS.vs=f a n
 new:∀b∈mb::Sh.fblocks M,w.heap.size≤b
 below:Below w.heap.size w wr
theorem CopyF.one{w:World}{q lb0 mb:Nat}{L0:List (Int×Nat×List (Int×List Nat))}{wr wr':World}{M:MF}{f:Int→Int→Option (List (List Nat))}(h:CopyF w q lb0 mb L0 wr M f){r:Nat}(ho:OneD r wr wr')(hr:w.heap.size≤r)(hr2:r∉mb::Sh.fblocks M)(hl:∀b∈lb0::Sh.lblocks L0,b<w.heap.size):CopyF w q lb0 mb L0 wr' M f:=by
 refine⟨h.held.same fun b hb=>ho.block b fun e=>?_,h.nd,h.ql,h.get,h.new,h.below.trans ⟨ho.os,ho.tape,ho.output,Nat.le_of_eq ho.size.symm,fun b hb=>ho.block b (by omega)⟩⟩;subst e;simp only[Sh.blocks,List.mem_cons,List.mem_append]at hb;rcases hb with hb|hb|hb|hb
 · have:=hl b (hb ▸ .head _);omega
 · exact hr2 (hb ▸ .head _)
 · have:=hl b (.tail _ hb);omega
 · exact hr2 (.tail _ hb)
theorem CopyF.grow{w:World}{q lb0 mb:Nat}{L0:List (Int×Nat×List (Int×List Nat))}{wr wr':World}{M:MF}{f:Int→Int→Option (List (List Nat))}(h:CopyF w q lb0 mb L0 wr M f)(hb:Below wr.heap.size wr wr'):CopyF w q lb0 mb L0 wr' M f:=
 ⟨h.held.same fun b hx=>hb.block b (h.held.lt b hx),h.nd,h.ql,h.get,h.new,h.below.trans (hb.mono h.below.size)⟩
theorem CopyF.ext{w:World}{q lb0 mb:Nat}{L0:List (Int×Nat×List (Int×List Nat))}{wr:World}{M:MF}{f g:Int→Int→Option (List (List Nat))}(h:CopyF w q lb0 mb L0 wr M f)(e:∀a n,f a n=g a n):CopyF w q lb0 mb L0 wr M g:=
 ⟨h.held,h.nd,h.ql,fun a n=>(h.get a n).trans (e a n),h.new,h.below⟩
theorem CopyF.put{w:World}{q lb0 mb:Nat}{L0:List (Int×Nat×List (Int×List Nat))}{wr W2 W3:World}{M:MF}{f:Int→Int→Option (List (List Nat))}{a n:Int}{x':FS}(h:CopyF w q lb0 mb L0 wr M f)(hb2:Below wr.heap.size wr W2)(hx:x'.ok W2)(hg:wr.heap.size≤x'.g)(hput:PutPost fsV a n x' mb M W2 W3):
 ∃M',CopyF w q lb0 mb L0 W3 M' (fun a' n'=>if a'=a∧n'=n then some x'.vs else f a' n')∧(∀b∈mb::Sh.fblocks M',b∈mb::Sh.fblocks M∨wr.heap.size≤b)∧(∀k,k<wr.heap.size→k∉mb::Sh.fblocks M→W3.heap[k]?=wr.heap[k]?):=by
 have hbs:=h.below.size;obtain⟨nb,k1,k2,k3,k4,k5⟩:=held_write (p:=q) (sh:=⟨lb0,mb,L0,M⟩) (x':=x') h.held h.nd (Nat.lt_of_lt_of_le h.ql hbs) hb2.size (fun k hk _=>hb2.block k hk) hb2.os hb2.tape hb2.output hx (.inr hg) hput;have far:∀k,k<wr.heap.size→k∉mb::Sh.fblocks M→W3.heap[k]?=wr.heap[k]?:=fun k hk hn=>by
  obtain⟨nb',_,_,_,_,_,_,_,hfar⟩:=hput;refine(hfar k (Nat.lt_of_lt_of_le hk hb2.size) (fun e=>hn (e ▸ .head _)) fun y hy e=>hn (.tail _ (e▸mem_fblocks (mem_keys_of_mget hy)))).trans (hb2.block k hk)
 have hnew:∀b∈mb::Sh.fblocks (putM a n x' nb M),b∈mb::Sh.fblocks M∨wr.heap.size≤b:=fun b hb=>by
  rcases List.mem_cons.1 hb with rfl|hb
  · exact .inl (.head _)
  · have hlt:=k1.lt b (.tail _ (.tail _ (List.mem_append_right _ hb)))
    obtain⟨R,r1,r2⟩:=fblocks_put a n x' nb M;rw[r2.mem_iff]at hb;rcases List.mem_append.1 hb with hb|hb
    · by_cases hm:mget a M=none
      · rw[if_pos hm]at hb
        rcases k3 b (.tail _ (.tail _ (.tail _ (List.mem_append_right _ (r2.mem_iff.2 (List.mem_append_left _ (by rw[if_pos hm];exact hb)))))))with h1|h1
        · by_cases hbl:wr.heap.size≤b
          · exact .inr hbl
          · -- nb is new
            have hnn:=List.mem_singleton.1 hb;exfalso;have hF:=(List.nodup_append.1 (List.nodup_cons.1 (List.nodup_cons.1 (List.nodup_cons.1 k2).2).2).2);obtain⟨p1,p2⟩:=List.nodup_cons.1 k2;obtain⟨p3,p4⟩:=List.nodup_cons.1 p2;obtain⟨p5,p6⟩:=List.nodup_cons.1 p4;have hbF:b∈Sh.fblocks (putM a n x' nb M):=r2.mem_iff.2 (List.mem_append_left _ (by rw[if_pos hm];exact hb));simp only[Sh.blocks,List.mem_cons,List.mem_append]at h1;rcases h1 with h1|h1|h1|h1|h1
            · exact p1 (h1 ▸ .tail _ (.tail _ (List.mem_append_right _ hbF)))
            · exact p3 (h1 ▸ .tail _ (List.mem_append_right _ hbF))
            · exact p5 (h1▸List.mem_append_right _ hbF)
            · exact(List.nodup_append.1 p6).2.2 b h1 b hbF rfl
            · have h2:b∈x'.g::R:=List.mem_cons_of_mem _ (by
               have:=r1.mem_iff.1 h1;unfold fsGet at this;rw[hm]at this;simpa using this)
              have:=(r2.nodup_iff.1 (List.nodup_append.1 p6).2.1);rw[if_pos hm]at this;exact(List.nodup_append.1 this).2.2 b hb b h2 rfl
        · exact .inr h1
      · rw[if_neg hm]at hb;cases hb
    · rcases List.mem_cons.1 hb with rfl|hb
      · exact .inr hg
      · exact .inl (.tail _ (r1.mem_iff.2 (List.mem_append_right _ hb)))
 refine⟨_,⟨k1,k2,h.ql,fun a' n'=>?_,fun b hb=>?_,?_⟩,hnew,far⟩
 · rw[fsGet_put]
   split
   · rfl
   · exact h.get a' n'
 · rcases hnew b hb with hb|hb
   · exact h.new b hb
   · omega
 · refine⟨k4.os.trans h.below.os,k4.tape.trans h.below.tape,k4.output.trans h.below.output,Nat.le_trans hbs k4.size,fun k hk=>(far k (by omega) fun hm=>?_).trans (h.below.block k hk)⟩
   have:=h.new k hm;omega
end Go.Proofs.YthecngkdmnadoaaGreat

namespace Go.Proofs.YthecngkdmnadoaaGreat
open Go.RowKit Go.Shelf
set_option maxRecDepth 100000
def cf2(done:MF)(k:Int)(dn:List (Int×FS))(a n:Int):Option (List (List Nat)):=if a=k then (mget n dn).map FS.vs else (fsGet done a n).map FS.vs
theorem fsGet_snoc{done:MF}{k:Int}{x:Nat×List (Int×FS)}(hk:k∉keys done)(a n:Int):fsGet (done++[(k,x)]) a n=if a=k then mget n x.2 else fsGet done a n:=by
 unfold fsGet;rw[←mput_new hk,mget_mput]
 split<;>rfl
theorem mgetF_snoc{α:Type}{dn:List (Int×α)}{k:Int}{x:α}(hk:k∉keys dn)(n:Int):mget n (dn++[(k,x)])=if n=k then some x else mget n dn:=by
 rw[←mput_new hk,mget_mput]
structure OutF(w:World)(q lb0 mb fb r:Nat)(L0:List (Int×Nat×List (Int×List Nat)))(F:MF)(wr:World)(done M:MF):Prop where
 rng:Ranges .u64 inV wr (some fb) r F done
 cp:CopyF w q lb0 mb L0 wr M (fun a n=>(fsGet done a n).map FS.vs)
 rn:r∉mb::Sh.fblocks M
structure InnF(w:World)(q lb0 mb fb r r2 xb:Nat)(L0:List (Int×Nat×List (Int×List Nat)))(F:MF)(done:MF)(k:Int)(xm:List (Int×FS))(wr:World)(dn:List (Int×FS))(M:MF):Prop where
 rng:Ranges .u64 inV wr (some fb) r F (done++[(k,xb,xm)])
 inn:Ranges .i64 fsV wr (some xb) r2 xm dn
 cp:CopyF w q lb0 mb L0 wr M (cf2 done k dn)
 rn:r∉mb::Sh.fblocks M
 rn2:r2∉mb::Sh.fblocks M
theorem InnF.next{w:World}{q lb0 mb fb r r2 xb:Nat}{L0:List (Int×Nat×List (Int×List Nat))}{F done:MF}{k:Int}{xm:List (Int×FS)}{wr w' W2 W3:World}{dn:List (Int×FS)}{M:MF}{n:Int}{x x':FS}(h:InnF w q lb0 mb fb r r2 xb L0 F done k xm wr dn M)
 (hfb:fb<w.heap.size) (hxb:xb<w.heap.size) (hr2:w.heap.size≤r2) (hrr:r≠r2) (hl:∀b∈lb0::Sh.lblocks L0,b<w.heap.size) (hn:n∉keys dn)
 (hin2:Ranges .i64 fsV w' (some xb) r2 xm (dn++[(n,x)])) (ho:OneD r2 wr w') (hb2:Below w'.heap.size w' W2) (hx:x'.ok W2) (hxv:x'.vs=x.vs) (hg:w'.heap.size≤x'.g) (hput:PutPost fsV k n x' mb M W2 W3):
 ∃M',InnF w q lb0 mb fb r r2 xb L0 F done k xm W3 (dn++[(n,x)]) M':=by
 have hcp:=h.cp.one ho hr2 h.rn2 hl;obtain⟨M',k1,k2,k3⟩:=hcp.put hb2 hx hg hput;have hrl:=h.rng.lt;have hsz:=ho.size;have hr2l:r2<w'.heap.size:=hin2.lt;have hws:=hcp.below.size;have old:∀b,b<w'.heap.size→b∉mb::Sh.fblocks M→W3.heap[b]?=w'.heap[b]?:=k3;have src:∀b,b<w.heap.size→b∉mb::Sh.fblocks M:=fun b hb hm=>by have:=hcp.new b hm;omega
 refine⟨M',?_,?_,?_,?_,?_⟩
 · refine h.rng.same ((old r (by omega) h.rn).trans (ho.block r hrr)) fun b hb=>?_
   cases hb;exact(old fb (by omega) (src fb hfb)).trans (ho.block fb (by omega))
 · refine hin2.same (old r2 hr2l h.rn2) fun b hb=>?_
   cases hb;exact old xb (by omega) (src xb hxb)
 · refine k1.ext fun a' n'=>?_
   unfold cf2;rw[mgetF_snoc hn];by_cases e:a'=k
   · by_cases e2:n'=n
     · rw[if_pos ⟨e,e2⟩,if_pos e,if_pos e2,hxv];rfl
     · rw[if_neg (fun hh=>e2 hh.2),if_pos e,if_pos e,if_neg e2]
   · rw[if_neg (fun hh=>e hh.1),if_neg e,if_neg e]
 · intro hm
   rcases k2 r hm with hm|hm
   · exact h.rn hm
   · omega
 · intro hm
   rcases k2 r2 hm with hm|hm
   · exact h.rn2 hm
   · omega
set_option maxHeartbeats 1000000 in
theorem copyFresh_any(q lb0 fb:Nat)(L0:List (Int×Nat×List (Int×List Nat)))(F:MF)(w:World)(hf:MapAt .u64 inV w fb F)(hfi:∀p∈F,MapAt .i64 fsV w p.2.1 p.2.2∧(∀s∈p.2.2,s.2.ok w)∧p.2.2≠[])(hN:∀p∈F,∀s∈p.2.2,s.2.vs.length≤1099511627776)
 (hl0:MapAt .u64 inV w lb0 L0) (hli:∀p∈L0,MapAt .i64 verV w p.2.1 p.2.2∧(∀s∈p.2.2,s.2.length=64)∧p.2.2≠[]) (hq:q<w.heap.size) (hnd:(q::lb0::Sh.lblocks L0).Nodup):
 Calls Tryz.prog 47 #[.map (some fb)] w fun e w'=>∃mb M,e = .returned (.map (some mb))∧CopyF w q lb0 mb L0 w' M (fun a n=>(fsGet F a n).map FS.vs):=by
 have HF:Hid (MapAt .u64 inV w fb F):=hf;have HFI:Hid (∀p∈F,MapAt .i64 fsV w p.2.1 p.2.2∧(∀s∈p.2.2,s.2.ok w)∧p.2.2≠[]):=hfi;have HN:Hid (∀p∈F,∀s∈p.2.2,s.2.vs.length≤1099511627776):=hN;have hfb:=hf.lt;have HLB:Hid (∀b∈lb0::Sh.lblocks L0,b<w.heap.size):=fun b hb=>by
  rcases List.mem_cons.1 hb with rfl|hb
  · exact hl0.lt
  · obtain⟨p,hp,rfl⟩:=List.mem_map.1 hb
    exact(hli p hp).1.lt
 have hmm:=@run_makeMap Tryz.prog;have HR:Hid (∃ob,(Instr.range 71 (.map (some fb))).run Tryz.prog (w.alloc (.map #[] 0)) = .ok (.pointer (some ⟨(w.alloc (.map #[] 0)).heap.size,0,none⟩)) ((w.alloc (.map #[] 0)).alloc ob)∧Ranges .u64 inV ((w.alloc (.map #[] 0)).alloc ob) (some fb) (w.alloc (.map #[] 0)).heap.size F []):=(hf.same (alloc_old w _ hfb)).range Tryz.underlying71;have HC0:Hid (∀ob,CopyF w q lb0 w.heap.size L0 ((w.alloc (.map #[] 0)).alloc ob) [] (fun a n=>(fsGet [] a n).map FS.vs)):=fun ob=>by
  have hB2:Below w.heap.size w ((w.alloc (.map #[] 0)).alloc ob):=((Below.refl _ w).alloc (Nat.le_refl _) _).alloc (by simp) _;refine⟨⟨hl0.same (hB2.block _ hl0.lt),(MapAt.new .u64 inV w).same (alloc_old _ _ (by simp)),fun p hp=>⟨(hli p hp).1.same (hB2.block _ (hli p hp).1.lt),(hli p hp).2⟩,fun p hp=>(by cases hp)⟩,?_,hq,fun a n=>rfl,fun b hb=>?_,hB2⟩
  · obtain⟨p1,p2⟩:=List.nodup_cons.1 hnd
    obtain⟨p3,p4⟩:=List.nodup_cons.1 p2;(have far:∀b∈lb0::Sh.lblocks L0,b≠w.heap.size:=fun b hb=>by have:=HLB.out b hb;omega);simp only[Sh.blocks,Sh.fblocks,List.flatMap_nil,List.append_nil,List.nodup_cons,List.mem_cons,not_or]at p1 p3 ⊢;exact⟨⟨p1.1,by omega,p1.2⟩,⟨far _ (.head _),p3⟩,fun hm=>far _ (.tail _ hm) rfl,p4⟩
  · simp[Sh.fblocks]at hb;omega
 clear hf hfi hN hl0 hli hnd;go_enter Tryz.func47,Tryz.ntmps47;go_wp2_with (at_range;refine wpList_range_at HR.out rfl _ rfl rfl ?_);intro ob hrg;have H0:Hid (OutF w q lb0 w.heap.size fb (w.heap.size+1) L0 F ((w.alloc (.map #[] 0)).alloc ob) [] []):=⟨by simpa using hrg,HC0.out ob,by simp[Sh.fblocks]⟩;clear hrg;go_wp2_with fail
 go_loopw [] (fun wr=>∃done M,OutF w q lb0 w.heap.size fb (w.heap.size+1) L0 F wr done M) (fun wr=>F.length-seenAt wr (w.heap.size+1))
 case atStart=>exact⟨[],[],H0.out⟩
 case round=>
  clear H0;obtain⟨done,M,hI⟩:=hrel;have HIV:Hid (OutF w q lb0 w.heap.size fb (w.heap.size+1) L0 F wr done M):=hI;clear hI;go_wp2_with (at_next;refine wpList_next_at HIV.out.rng rfl _ rfl rfl ?_ ?_)
  · intro hall
    have HALL:Hid (AllIn F done):=hall;clear hall;go_wp2_with fail;go_ret;have h:=HIV.out;obtain⟨_,_,hdn,hdm⟩:=h.rng.seen;refine⟨_,M,rfl,h.cp.ext fun a n=>?_⟩;have e1:mget a done=mget a F:=mget_same hdn HF.out.nodup (fun p=>⟨hdm p,HALL.out p⟩) a;unfold fsGet;rw[e1]
  · intro k xb xm w1 hm hk hr2 ho hen
    have hmx:=HFI.out _ hm;have hxb:xb<w.heap.size:=hmx.1.lt;have hcp1:=HIV.out.cp.one ho (by omega) HIV.out.rn HLB.out;have HMX:Hid (MapAt .i64 fsV w xb xm∧(∀s∈xm,s.2.ok w)∧∀s∈xm,s.2.vs.length≤1099511627776):=⟨hmx.1,hmx.2.1,HN.out _ hm⟩;have HCP1:Hid (CopyF w q lb0 w.heap.size L0 w1 M (fun a n=>(fsGet done a n).map FS.vs)):=hcp1;have HR2:Hid (Ranges .u64 inV w1 (some fb) (w.heap.size+1) F (done++[(k,xb,xm)])):=hr2;have HKK:Hid (k∉keys done):=hk;have hen':(Instr.entry (.pointer (some ⟨w.heap.size+1,0,none⟩))).run Tryz.prog w1 = .ok (.tuple #[.int .u64 k,.map (some xb)]) w1:=hen;have hsn0:=HIV.out.rng.seen;have hsn:=hr2.seen;have hRI:∃ob,(Instr.range 88 (.map (some xb))).run Tryz.prog w1 = .ok (.pointer (some ⟨w1.heap.size,0,none⟩)) (w1.alloc ob)∧Ranges .i64 fsV (w1.alloc ob) (some xb) w1.heap.size xm []:=(hmx.1.same (hcp1.below.block xb hxb)).range Tryz.underlying88;have HRI:Hid (∃ob,(Instr.range 88 (.map (some xb))).run Tryz.prog w1 = .ok (.pointer (some ⟨w1.heap.size,0,none⟩)) (w1.alloc ob)∧Ranges .i64 fsV (w1.alloc ob) (some xb) w1.heap.size xm []):=hRI;have hr1l:=hr2.lt;(try rw[show inV (xb,xm) = .map (some xb)from rfl]);clear hen hmx hr2 ho hk hm hcp1 hRI;go_wp2_with (at_range;refine wpList_range_at HRI.out rfl _ rfl rfl ?_);intro ob hrg;have HI0:Hid (InnF w q lb0 w.heap.size fb (w.heap.size+1) w1.heap.size xb L0 F done k xm (w1.alloc ob) [] M):=by
     have hbA:Below w1.heap.size w1 (w1.alloc ob):=(Below.refl _ w1).alloc (Nat.le_refl _) _;refine⟨HR2.out.same (hbA.block _ hr1l) (fun b hb=>by cases hb;exact hbA.block _ (by omega)),hrg,(HCP1.out.grow hbA).ext fun a n=>?_,HIV.out.rn,fun hm=>?_⟩
     · unfold cf2
       by_cases e:a=k
       · rw[if_pos e,e]
         unfold fsGet;rw[mget_none.2 HKK.out];rfl
       · rw[if_neg e]
     · have h1:=HCP1.out.held.lt w1.heap.size (by
        rcases List.mem_cons.1 hm with hm|hm
        · rw[hm];exact .tail _ (.head _)
        · exact .tail _ (.tail _ (List.mem_append_right _ hm)))
       omega
    clear hrg;go_wp2_with fail
    go_loopw [] (fun wr=>∃dn M,InnF w q lb0 w.heap.size fb (w.heap.size+1) w1.heap.size xb L0 F done k xm wr dn M) (fun wr=>xm.length-seenAt wr w1.heap.size)
    case atStart=>exact⟨[],M,HI0.out⟩
    case round=>
     clear HI0;obtain⟨dn,M',hI⟩:=hrel;have HIN:Hid (InnF w q lb0 w.heap.size fb (w.heap.size+1) w1.heap.size xb L0 F done k xm wr dn M'):=hI;clear hI;go_wp2_with (at_next;refine wpList_next_at HIN.out.inn rfl _ rfl rfl ?_ ?_)
     · intro hall
       have HALL:Hid (AllIn xm dn):=hall;clear hall;have hsn2:=HIN.out.rng.seen;go_wp2_with fail
       go_roundw
       case rel=>
        have h:=HIN.out;obtain⟨_,_,hdn,hdm⟩:=h.inn.seen;refine⟨_,M',h.rng,h.cp.ext fun a n=>?_,h.rn⟩;(have e1:∀n,mget n dn=mget n xm:=fun n=>mget_same hdn HMX.out.1.nodup (fun p=>⟨hdm p,HALL.out p⟩) n);unfold cf2;rw[fsGet_snoc HKK.out];by_cases e:a=k
        · rw[if_pos e,if_pos e,e1]
        · rw[if_neg e,if_neg e]
       case measure=>
        rw[hsn2.1,hsn0.1];have:=hsn2.2.1;rw[List.length_append,List.length_singleton]at this ⊢;omega
     · intro n x w5 hm hk hr2 ho hen
       have hws:=HIN.out.cp.below.size;have hbw5:Below w.heap.size w w5:=HIN.out.cp.below.trans ⟨ho.os,ho.tape,ho.output,Nat.le_of_eq ho.size.symm,fun b hb=>ho.block b (by omega)⟩;have hxok:=HMX.out.2.1 _ hm;have HXO:Hid (x.ok w5∧x.vs.length≤1099511627776):=⟨hxok.same (hbw5.block _ hxok.lt),HMX.out.2.2 _ hm⟩;have HR3:Hid (Ranges .i64 fsV w5 (some xb) w1.heap.size xm (dn++[(n,x)])):=hr2;have HO:Hid (OneD w1.heap.size wr w5):=ho;have HK2:Hid (n∉keys dn):=hk;have hsi0:=HIN.out.inn.seen;have hsi:=hr2.seen;obtain⟨xv,hxv⟩:∃xv,fsV x=xv:=⟨_,rfl⟩;have HXV:Hid (fsV x=xv):=hxv;have hen':(Instr.entry (.pointer (some ⟨w1.heap.size,0,none⟩))).run Tryz.prog w5 = .ok (.tuple #[.int .i64 n,xv]) w5:=hxv▸hen;rw[hxv];clear hen hxok hbw5 hr2 ho hk hm hxv;go_wp2_with fail;rw[←HXV.out];refine(cloneF_any x w5 HXO.out.1 HXO.out.2).mono ?_;rintro e w6 ⟨x',rfl,hxv,hxo,hxg,hb6⟩;have hs5:=HO.out.size;have hcp5:=HIN.out.cp.one HO.out (by omega) HIN.out.rn2 HLB.out;(have HT:Hid (Two fsV w6 w.heap.size M'):=two_of_held (a:=k) (n:=n) (sh:=⟨lb0,w.heap.size,L0,M'⟩) hcp5.held hcp5.nd fun k hk _=>hb6.block k hk);have HX6:Hid (x'.vs=x.vs∧x'.ok w6∧w5.heap.size≤x'.g∧Below w5.heap.size w5 w6):=⟨hxv,hxo,hxg,hb6⟩;obtain⟨xv',hxv'⟩:∃xv,fsV x'=xv:=⟨_,rfl⟩;have HXV':Hid (fsV x'=xv'):=hxv';rw[hxv'];clear hxv hxo hxg hb6 hcp5 hxv' hs5;go_wp2_with fail;rw[←HXV'.out];refine(putF_any w.heap.size M' k n x' w6 HT.out).mono ?_;rintro e w7 ⟨rfl,hput⟩;obtain⟨M2,hN2⟩:=HIN.out.next (x:=x) hfb hxb (by omega) (by omega) HLB.out HK2.out HR3.out HO.out HX6.out.2.2.2 HX6.out.2.1 HX6.out.1 HX6.out.2.2.1 hput
       have HN2:Hid (InnF w q lb0 w.heap.size fb (w.heap.size+1) w1.heap.size xb L0 F done k xm w7 (dn++[(n,x)]) M2):=hN2;clear hput hN2;go_wp2_with fail
       go_roundw
       case rel=>exact⟨_,_,HN2.out⟩
       case measure=>
        rw[HN2.out.inn.seen.1,hsi0.1];have:=hsi.2.1;rw[List.length_append,List.length_singleton]at this ⊢;omega
end Go.Proofs.YthecngkdmnadoaaGreat

namespace Go.Proofs.YthecngkdmnadoaaGreat
open Go.RowKit
set_option maxRecDepth 100000
theorem rep_of{sh sh':Sh}{S:List Sec}(h:Rep sh S)(hl:∀a n,lget sh' a n=lget sh a n)(hf:∀a n,fget sh' a n=fget sh a n):Rep sh' S:=
 ⟨h.sorted,fun a n=>(hl a n).trans (h.last a n),fun a n=>(hf a n).trans (h.fresh a n),h.there⟩
theorem fs_small{N:Nat}{sh:Sh}{S:List Sec}{w:World}(hh:Held w sh)(hr:Rep sh S)(hN:∀s∈S,s.fresh.length≤N):∀p∈sh.F,∀s∈p.2.2,s.2.vs.length≤N:=by
 intro p hp s hs;have h1:fsGet sh.F p.1 s.1=some s.2:=by
  unfold fsGet;rw[mget_of_mem hh.hf.nodup (show(p.1,p.2)∈sh.F from hp)];exact mget_of_mem (hh.hfi p hp).1.nodup (show(s.1,s.2)∈p.2.2 from hs)
 have h2:=hr.fresh p.1 s.1;rw[fget_eq,h1]at h2;simp only[Option.map_some,Option.getD_some]at h2;rw[h2];cases hf:findS p.1 s.1 S with
 |none=>simp
 |some t=>exact hN t (findS_mem hf)
set_option maxHeartbeats 1000000 in
theorem CloneD_any(N p:Nat)(d:DS)(fp:List Nat)(w:World)(h:DiskAt N w p d fp)(hN:N≤1099511627776):
 Calls Tryz.prog 23 #[.pointer (some ⟨p,0,none⟩)] w fun e w'=>∃q fq,e = .returned (.pointer (some ⟨q,0,none⟩))∧DiskAt N w' q d fq∧Below w.heap.size w w'∧∀b∈fq,w.heap.size≤b:=by
 have HD:Hid (DiskAt N w p d fp):=h;obtain⟨sh,h1,h2,h3,h4,h5,hnum⟩:=h;obtain⟨c0,c1,c2,c3,c4,c5,c6,c7,hz⟩:=disk_cells h1;have hpl:p<w.heap.size:=(Array.getElem?_eq_some_iff.1 h1).1;have HH:Hid (Held w sh):=h2;have HR:Hid (Rep sh d.secs):=h3;have H1:Hid (w.heap[p]?=some (dC d.room (d.secs.length:Int) d.steps d.dead d.armed d.ahead sh.lb sh.fb)):=h1;have HNUM:Hid (0≤d.room∧d.room≤9223372036854775807∧0≤d.steps∧d.steps≤N∧d.secs.length≤N∧(d.secs.length:Int)≤d.room∧(∀s∈d.secs,s.fresh.length≤N) ∧ -9223372036854775808≤d.ahead∧d.ahead≤9223372036854775807∧(d.armed=true→0≤d.ahead)):=hnum;obtain⟨w1,hw1⟩:∃w1,w.alloc (dC d.room (d.secs.length:Int) d.steps d.dead d.armed d.ahead sh.lb sh.fb)=w1:=⟨_,rfl⟩;have HW1:Hid (w.alloc (dC d.room (d.secs.length:Int) d.steps d.dead d.armed d.ahead sh.lb sh.fb)=w1):=hw1;have hq1:w1.heap[w.heap.size]?=some (dC d.room (d.secs.length:Int) d.steps d.dead d.armed d.ahead sh.lb sh.fb):=hw1▸alloc_new _ _;have B1:Hid (Below w.heap.size w w1):=hw1▸(Below.refl _ w).alloc (Nat.le_refl _) _;have hs1:w.heap.size<w1.heap.size:=(Array.getElem?_eq_some_iff.1 hq1).1;have HQ1:Hid (w1.heap[w.heap.size]?=some (dC d.room (d.secs.length:Int) d.steps d.dead d.armed d.ahead sh.lb sh.fb)):=hq1;clear h1 h2 h3 h4 h5 hnum hw1 hq1;go_enter Tryz.func23,Tryz.ntmps23;go_wp2_with fail;have e1:=HW1.out;unfold dC at e1;rw[e1];clear e1;have hlo:=HH.out.lt;refine(copyLasting_any sh.lb sh.L w1 (HH.out.hl.same (B1.out.block _ HH.out.hl.lt)) (fun p hp=>(HH.out.hli p hp).1.same (B1.out.block _ (HH.out.hli p hp).1.lt))).mono ?_;rintro e w2 ⟨mb,M,rfl,ht,hg,hmb,hM,hb2⟩;have hq2:=(hb2.block w.heap.size hs1).trans HQ1.out;have hp2:=(hb2.block p (by omega)).trans ((B1.out.block p hpl).trans H1.out);obtain⟨k0,k1,k2,k3,k4,k5,k6,k7,kz⟩:=disk_cells hq2;obtain⟨p0,p1,p2,p3,p4,p5,p6,p7,pz⟩:=disk_cells hp2;have HT:Hid (Two verV w2 mb M∧(∀a,(mget a M).map (·.2)=(mget a sh.L).map (·.2))∧w1.heap.size≤mb∧(∀p∈M,w1.heap.size≤p.2.1)∧Below w1.heap.size w1 w2):=⟨ht,hg,hmb,hM,hb2⟩;obtain⟨w3,hw3⟩:∃w3,w2.setCell ⟨w.heap.size,6,none⟩ (.map (some mb))=w3:=⟨_,rfl⟩;have HW3:Hid (w2.setCell ⟨w.heap.size,6,none⟩ (.map (some mb))=w3):=hw3;have hs2:=hb2.size;have hp7:w3.cell? ⟨p,7,none⟩=some (.map (some sh.fb)):=by
  rw[←hw3];exact(World.cell?_of_block (a:=⟨p,7,none⟩) (Below.heap_setCell _ _ _ _ (by show p≠w.heap.size;omega))).trans p7
 have hq3:w3.heap[w.heap.size]?=some (dC d.room (d.secs.length:Int) d.steps d.dead d.armed d.ahead mb sh.fb):=by
  rw[←hw3];exact set_cell hq2 6 (.map (some mb))
 have HQ3:Hid (w3.heap[w.heap.size]?=some (dC d.room (d.secs.length:Int) d.steps d.dead d.armed d.ahead mb sh.fb)):=hq3;have B3:Hid (Below w.heap.size w w3):=hw3▸(B1.out.trans (hb2.mono (by omega))).setCell (Nat.le_refl _) _;have F3:Hid (∀k,k≠w.heap.size→w3.heap[k]?=w2.heap[k]?):=fun k hk=>hw3▸Below.heap_setCell _ _ _ _ hk
 have hs3:w.heap.size<w3.heap.size:=(Array.getElem?_eq_some_iff.1 hq3).1;clear ht hg hmb hM hb2 hq2 hp2 hw3 hq3 hlo p0 p1 p2 p3 p4 p5 p6;go_wp2_with fail;rw[HW3.out];clear k0 k1 k2 k3 k4 k5 k6 k7 kz c0 c1 c2 c3 c4 c5 c6 c7 hz p7 pz;have hL0:MapAt .u64 inV w3 mb M:=HT.out.1.1.same (F3.out mb (by have:=HT.out.2.2.1;omega));have hLi:∀x∈M,MapAt .i64 verV w3 x.2.1 x.2.2∧(∀s∈x.2.2,s.2.length=64)∧x.2.2≠[]:=fun x hx=>by
  refine⟨(HT.out.1.2.1 x hx).same (F3.out _ (by have:=HT.out.2.2.2.1 x hx;omega)),?_⟩;have e:=HT.out.2.1 x.1;rw[mget_of_mem HT.out.1.1.nodup (show(x.1,x.2)∈M from hx)]at e;cases hl:mget x.1 sh.L with
  |none=>rw[hl]at e;simp at e
  |some y=>
   rw[hl]at e;simp only[Option.map_some,Option.some.injEq]at e;obtain⟨_,h2,h3⟩:=HH.out.hli _ (mem_keys_of_mget hl);rw[e];exact⟨h2,h3⟩
 have hnd:(w.heap.size::mb::Sh.lblocks M).Nodup:=by
  refine List.nodup_cons.2 ⟨fun hm=>?_,HT.out.1.2.2⟩;rcases List.mem_cons.1 hm with hm|hm
  · have:=HT.out.2.2.1;omega
  · obtain⟨x,hx,e⟩:=List.mem_map.1 hm
    have:=HT.out.2.2.2.1 x hx;omega
 have hfsm:=fs_small HH.out HR.out HNUM.out.2.2.2.2.2.2.1;refine(copyFresh_any w.heap.size mb sh.fb M sh.F w3 (HH.out.hf.same (B3.out.block _ HH.out.hf.lt)) (fun x hx=>⟨(HH.out.hfi x hx).1.same (B3.out.block _ (HH.out.hfi x hx).1.lt),fun s hs=>((HH.out.hfi x hx).2.1 s hs).same (B3.out.block _ ((HH.out.hfi x hx).2.1 s hs).lt),(HH.out.hfi x hx).2.2⟩) (fun x hx s hs=>by have:=hfsm x hx s hs;omega) hL0 hLi hs3 hnd).mono ?_;rintro e w4 ⟨mf,MFq,rfl,hcf⟩;have HCF:Hid (CopyF w3 w.heap.size mb mf M w4 MFq (fun a n=>(fsGet sh.F a n).map FS.vs)):=hcf;have hq4:=(hcf.below.block _ hs3).trans HQ3.out;obtain⟨k0,k1,k2,k3,k4,k5,k6,k7,kz⟩:=disk_cells hq4;have HQ4:Hid (w4.heap[w.heap.size]?=some (dC d.room (d.secs.length:Int) d.steps d.dead d.armed d.ahead mb sh.fb)):=hq4;clear hL0 hLi hnd hfsm hcf hq4 k0 k1 k2 k3 k4 k5 k6;go_wp2_with fail;go_ret;have hqq:=set_cell HQ4.out 7 (.map (some mf));refine⟨w.heap.size,w.heap.size::Sh.blocks ⟨mb,mf,M,MFq⟩,rfl,⟨⟨mb,mf,M,MFq⟩,hqq,?_,rep_of HR.out (fun a n=>?_) (fun a n=>?_),rfl,HCF.out.nd,HNUM.out⟩,?_,fun b hb=>?_⟩
 · exact HCF.out.held.same fun b hb=>Below.heap_setCell _ _ _ _ fun e=>(List.nodup_cons.1 HCF.out.nd).1 (by have e2:b=w.heap.size:=e;rw[←e2];exact hb)
 · exact copied_get HT.out.2.1 a n
 · rw[fget_eq,fget_eq,HCF.out.get]
 · exact(B3.out.trans (HCF.out.below.mono (by omega))).setCell (Nat.le_refl _) _
 · rcases List.mem_cons.1 hb with rfl|hb
   · exact Nat.le_refl _
   · simp only[Sh.blocks,List.mem_cons,List.mem_append]at hb
     rcases hb with rfl|rfl|hb|hb
     · have:=HT.out.2.2.1;omega
     · have:=HCF.out.new b (.head _);omega
     · obtain⟨x,hx,rfl⟩:=List.mem_map.1 hb
       have:=HT.out.2.2.2.1 x hx;omega
     · have:=HCF.out.new b (.tail _ hb);omega
end Go.Proofs.YthecngkdmnadoaaGreat

namespace Go.Proofs.YthecngkdmnadoaaGreat
open Go.RowKit
variable {P:Program} {md:Region.Mode} {ops:Array Oper} {Q:Exit→Act→World→Prop} {S:World→Prop}
theorem pass_at{i:Nat}{oi:Oper}{fuel:Nat}{listed:Array Bool}{tmps:Array Value}{df:List Deferred}{w:World}(t:Tmp)(hi:ops[i]?=some oi)(hd:oi.dst=some t)
 (hs:Region.noSelect ops=true) (hf:Region.free md ops listed i=true) (hr:(Region.ready md ops listed).contains i=true)
 (hQ:∀c a w,Q (.panic c) (a.put oi.dst undef) w→Q (.panic c) a w) (hw:Region.wanted oi (yielded ops tmps)=false) (hS:S w)
 (h:wpAnyH P md ops Q S fuel (listed.setIfInBounds i true) { tmps:=tmps.setIfInBounds t undef,defers:=df } w):wpAnyH P md ops Q S (fuel+1) listed { tmps:=tmps,defers:=df } w:=by
 refine wpAnyH_take hi hs hf hr hQ (.inr ⟨hw,rfl⟩) hS ?_;rw[hd];exact h
theorem pk{i:Nat}{oi:Oper}{fuel:Nat}{listed:Array Bool}{tmps:Array Value}{df:List Deferred}{w:World}(t:Tmp)(hi:ops[i]?=some oi)(hd:oi.dst=some t)
 (hk:(Region.noSelect ops&&Region.free md ops listed i&&(Region.ready md ops listed).contains i)=true)
 (hQ:∀c a w,Q (.panic c) (a.put oi.dst undef) w→Q (.panic c) a w) (hw:Region.wanted oi (yielded ops tmps)=false) (hS:S w)
 (h:wpAnyH P md ops Q S fuel (listed.setIfInBounds i true) { tmps:=tmps.setIfInBounds t undef,defers:=df } w):wpAnyH P md ops Q S (fuel+1) listed { tmps:=tmps,defers:=df } w:=by
 simp only[Bool.and_eq_true]at hk;exact pass_at t hi hd hk.1.1 hk.1.2 hk.2 hQ hw hS h
end Go.Proofs.YthecngkdmnadoaaGreat

namespace Go.Proofs.YthecngkdmnadoaaGreat
open Go.RowKit
set_option maxRecDepth 100000
def Scripts5(W:World)(v:Value)(LL:List (List Op5)):Prop:=
 ∃ao cap,v = .slice ao LL.length cap∧LL.length≤cap∧LL.length≤9223372036854775807∧(0<LL.length→∃b off,ao=some ⟨b,off,none⟩∧b<W.heap.size∧∀(i:Nat) (L:List Op5),LL[i]?=some L→∃sv,W.cell? ⟨b,off+i,none⟩=some sv∧Script5 W sv L)
def preL(LL:List (List Op5))(j:Nat):Nat:=((LL.take j).map List.length).sum
theorem preL_succ{LL:List (List Op5)}{j:Nat}{L:List Op5}(h:LL[j]?=some L):preL LL (j+1)=preL LL j+L.length:=by
 unfold preL;rw[List.take_add_one,h,Option.toList_some,List.map_append,List.sum_append];simp
theorem preL_le(LL:List (List Op5))(j:Nat):preL LL j≤(LL.map List.length).sum:=by
 have h:=List.take_append_drop j LL;have e:(LL.map List.length).sum=preL LL j+((LL.drop j).map List.length).sum:=by
  unfold preL;rw[←List.sum_append,←List.map_append,h]
 omega
def CrI(w:World)(k:Nat)(dv:Value)(wr:World):Prop:=∃q d fq,dv = .pointer (some ⟨q,0,none⟩)∧DiskAt 18000000 wr q d fq∧Below w.heap.size w wr∧(∀x∈fq,w.heap.size≤x)∧Rdy 1 k d
set_option maxHeartbeats 4000000 in
theorem crash5_walk(v0:Value)(at_:Int)(v2:Value)(w:World)(LL:List (List Op5))(hS:Scripts5 w v0 LL)(h1 : -9223372036854775808≤at_)(h2:at_≤9223372036854775807)(ps:List Int)(hP:IntsAt w v2 ps)(hL:4*(LL.map List.length).sum≤1048576)(hx:∀L∈LL,∀o∈L,o.xs.length≤1048576):
 Calls Tryz.prog 4 #[v0,.int .i64 at_,v2] w fun e w'=>e = .returned (.bool true)∧Below w.heap.size w w':=by
 obtain⟨sa,sc,rfl,hsc,_,hcs⟩:=hS;have HCS:Hid _:=hcs;have HP:Hid (IntsAt w v2 ps):=hP;have HX:Hid (∀L∈LL,∀o∈L,o.xs.length≤1048576):=hx;clear hP hx hcs;go_enter Tryz.func4,Tryz.ntmps4;go_wp2_with fail;refine(New_any 1073741824 w (by omega) (by omega)).mono ?_;rintro e w1 ⟨p,fp,rfl,hd1,hb1,hf1⟩;have HD1:Hid (DiskAt 0 w1 p (newD 1073741824) fp∧Below w.heap.size w w1∧∀b∈fp,w.heap.size≤b):=⟨hd1,hb1,hf1⟩;clear hd1 hb1 hf1;go_wp2_with fail;refine(alive5_any w1).mono ?_;rintro e w2 ⟨rfl,hb2⟩;have HI:Hid (CrI w 4 (.pointer (some ⟨p,0,none⟩)) w2):=⟨p,_,fp,rfl,(HD1.out.1.below hb2).mono (by omega),HD1.out.2.1.trans (hb2.mono HD1.out.2.1.size),HD1.out.2.2,new_rdy⟩;clear hb2 HD1;go_wp2_with fail;have hsum:=fun j=>preL_le LL j
 go_loopw [7,27] (fun u v wr=>∃(j:Nat),v = .int .i64 j∧j≤LL.length∧CrI w (4+preL LL j) u wr) (fun _ v _=>LL.length-(intOf v).toNat)
 case atStart=>exact⟨0,rfl,Nat.zero_le _,HI.out⟩
 case round=>
  clear HI;obtain⟨j,rfl,hj,q,d,fq,rfl,hd,hb,hf,hr⟩:=hrel;have HD:Hid (DiskAt 18000000 wr q d fq∧Below w.heap.size w wr∧(∀x∈fq,w.heap.size≤x)∧Rdy 1 (4+preL LL j) d):=⟨hd,hb,hf,hr⟩;have hbs:=hb.size;have hpj:=hsum j;clear hd hf hr;by_cases hlt:j<LL.length
  · obtain⟨bb,off,rfl,hbw,hel⟩:=HCS.out (by omega)
    obtain⟨sv,hc,hsv⟩:=hel j LL[j] (List.getElem?_eq_getElem hlt);have hxl:=HX.out LL[j] (List.getElem_mem hlt);have hps:=preL_succ (List.getElem?_eq_getElem hlt);have hpj1:=hsum (j+1);generalize LL[j]=L at *;have d0:=(hb.cell (p:=⟨bb,off+j,none⟩) hbw).trans hc;obtain⟨xa,xc,rfl,hxc,hxm,hxs⟩:=hsv;have HSC:Hid (Script5 w (.slice xa L.length xc) L∧∀o∈L,o.xs.length≤1048576):=⟨⟨xa,xc,rfl,hxc,hxm,hxs⟩,hxl⟩;(have hlt':(j:Int)<(LL.length:Int):=by omega);clear hel hc hxs hxl hb;by_cases h400:L.length≤400
    · have h4':¬(400:Int)<(L.length:Int):=by omega
      go_wp2_with fail;refine(lawcut_any w 18000000 q (4+preL LL j) d fq at_ _ L wr HD.out.1 HD.out.2.1 HD.out.2.2.1 HD.out.2.2.2 HSC.out.1 (by omega) (by omega) HSC.out.2 h1 h2).mono ?_;rintro e w3 ⟨M,wv,d3,fp3,rfl,hb3,hd3,hf3,hcut,hwas⟩;obtain⟨hr,hlen,g,im,r,hg,hcp,him,hfit⟩:=cut_crash hcut (by omega) (by omega) ps;obtain⟨wb,wc,lv0,rfl,hwc,-⟩:=hwas.at him;have himl:=(List.getElem?_eq_some_iff.1 him).1;have hMl:=hwas.len;have H3:Hid (DiskAt 150000000 w3 q d3 fp3∧Below w.heap.size w w3∧d3.secs.length≤18000000):=⟨hd3.mono (by omega),hb3,by omega⟩;have HW3:Hid (WasX fp3 w.heap.size w3 (.slice (some ⟨wb,0,none⟩) M.length wc) M∧M[im]?=some r∧FitsP g.first g.L r.1 r.2∧∀r∈M,r.1+r.2.length≤300000):=⟨hwas,him,hfit,fun r' hr'=>Nat.le_trans ((cut_disk hcut).ends r' hr') (by omega)⟩;have HG:Hid (Rdy 1 (4+preL LL (j+1)) (crashD d3 ps)∧openG (crashD d3 ps) 0 1=(0,g)∧CutP 1 (4+preL LL (j+1)) (-1) g [(g.first,g.L)]):=⟨by rw[hps,←Nat.add_assoc];exact hr,hg,by rw[hps,←Nat.add_assoc];exact hcp⟩;clear hwas hd3 hb3 hf3 hr hg hcp him hfit hcut hlen HSC HD h4' d0;go_wp2_with fail;refine(Crash_any _ q d3 fp3 v2 ps w3 H3.out.1 (HP.out.below H3.out.2.1) (by omega)).mono ?_;rintro e w4 ⟨q4,fq4,rfl,hc4,hb4,hf4⟩;have H4:Hid (DiskAt 18000000 w4 q4 (crashD d3 ps) fq4∧Below w.heap.size w w4∧∀k∈fq4,w.heap.size≤k):=⟨crash_lower hc4 H3.out.2.2,H3.out.2.1.trans (hb4.mono H3.out.2.1.size),fun k hk=>Nat.le_trans H3.out.2.1.size (hf4 k hk)⟩;have HW4:Hid (WasX fp3 w.heap.size w4 (.slice (some ⟨wb,0,none⟩) M.length wc) M):=HW3.out.1.below hb4;clear hc4 hb4 hf4 H3;go_wp2_with fail;refine(CloneD_any 18000000 q4 (crashD d3 ps) fq4 w4 H4.out.1 (by omega)).mono ?_;rintro e w5 ⟨q5,fq5,rfl,hc5,hb5,hf5⟩;have H5:Hid (DiskAt 18000000 w5 q5 (crashD d3 ps) fq5∧DiskAt 18000000 w5 q4 (crashD d3 ps) fq4∧Below w.heap.size w w5∧(∀k∈fq5,w.heap.size≤k)∧∀k∈fq4,k∉fq5):=⟨hc5,H4.out.1.below hb5,H4.out.2.1.trans (hb5.mono H4.out.2.1.size),fun k hk=>Nat.le_trans H4.out.2.1.size (hf5 k hk),fun k hk hk5=>by have h1:=H4.out.1.lt k hk;have h2:=hf5 k hk5;omega⟩;have HW5:Hid (WasX fq5 w.heap.size w5 (.slice (some ⟨wb,0,none⟩) M.length wc) M):=HW4.out.step (Only.of_below hb5) (fun k hk => .inr (hf5 k hk));clear hc5 hb5 hf5 HW4;have HO:Hid (Calls Tryz.prog 12 #[.pointer (some ⟨q5,0,none⟩),.int .u64 0,.int .u64 1] w5 (OpAt (18000000+(4+preL LL (j+1))) q5 g fq5 w5)):=HG.out.1.at H5.out.1 (by omega) HG.out.2.1;go_wp2_with fail;refine HO.out.mono ?_;rintro e w6 ⟨b,v,fp6,s6,rfl,hl6,hp6,ho6,hk6⟩;have HS6:Hid (Since w (18000000+(4+preL LL (j+1))) w6 b q5 g v fp6 s6):=OpAt.since hl6 hp6 ho6 hk6 H5.out.2.2.1 H5.out.2.2.2.1;have HW6:Hid (WasX fq5 w.heap.size w6 (.slice (some ⟨wb,0,none⟩) M.length wc) M):=HW5.out.step ho6 (fun k hk => .inl hk);have H6:Hid (DiskAt 18000000 w6 q4 (crashD d3 ps) fq4):=H5.out.2.1.apart ho6 H5.out.2.2.2.2;clear hl6 hp6 ho6 hk6 HO HW5 H5;go_wp2_with fail;refine(all5_any w _ b q5 g v fp6 s6 w6 HS6.out (by have:=HG.out.2.2.sm.fl;omega) (fun x hx=>Nat.le_trans (HG.out.2.2.rec' x hx) (by omega))).mono ?_;rintro e w7 ⟨hb7,lv,rfl,hlv⟩;have H7:Hid (Since w (18000000+(4+preL LL (j+1))) w7 b q5 g v fp6 s6∧WasX fq5 w.heap.size w7 (.slice (some ⟨wb,0,none⟩) M.length wc) M∧DiskAt 18000000 w7 q4 (crashD d3 ps) fq4∧StrsR w7 lv g.L):=⟨HS6.out.on hb7,HW6.out.below hb7,H6.out.below hb7,hlv.read⟩;clear hb7 hlv HS6 HW6 H6;go_wp2_with fail;obtain⟨la,ln,lc,rfl⟩:∃la ln lc,lv = .slice la ln lc:=by
       obtain⟨ao,cap,e,_⟩:=H7.out.2.2.2;exact⟨ao,_,cap,e⟩
      go_loopw [15,62] (fun u v wr=>∃(i:Nat) (t:Bool),v = .int .i64 i∧i≤M.length∧u = .bool t∧(im<i→t=true)∧Below w7.heap.size w7 wr) (fun _ v _=>M.length-(intOf v).toNat)
      case atStart=>exact⟨0,false,rfl,Nat.zero_le _,rfl,fun h=>absurd h (Nat.not_lt_zero _),Below.refl _ _⟩
      case round=>
       obtain⟨i,t,rfl,hi,rfl,ht,hbr⟩:=hrel;have HB:Hid (Below w7.heap.size w7 wr∧(im<i→t=true)):=⟨hbr,ht⟩;clear ht;by_cases hli:i<M.length
       · obtain⟨wb',wc',lv',hwe,-,hwb,-,c0,c1,hlv⟩:=H7.out.2.1.at (List.getElem?_eq_getElem hli)
         simp only[Value.slice.injEq,Option.some.injEq,Addr.mk.injEq]at hwe;obtain⟨⟨rfl,_,_⟩,_,rfl⟩:=hwe;have hmr:=HW3.out.2.2.2 M[i] (List.getElem_mem hli);have HMi:Hid (i=im→M[i]=r):=fun e=>by
          have h9:=HW3.out.2.1;rw[←e,List.getElem?_eq_getElem hli]at h9;exact Option.some.inj h9
         generalize M[i]=ri at *;obtain⟨Ra,m,Rc,rfl⟩:∃Ra m Rc,lv' = .slice Ra m Rc:=by
          obtain⟨ao,cap,e,_⟩:=hlv;exact⟨ao,_,cap,e⟩
         have d0:=(hbr.cell (p:=⟨wb,i*2,none⟩) hwb).trans c0;have d1:=(hbr.cell (p:=⟨wb,i*2+1,none⟩) hwb).trans c1;have HLV:Hid (StrsR wr (.slice Ra m Rc) ri.2):=hlv.below hbr;(have hli':(i:Int)<(M.length:Int):=by omega);have HLi:Hid (i<M.length):=hli;clear c0 c1 hlv hbr;go_wp2_with fail;obtain⟨W8,hW8⟩:∃W8,wr.alloc (.cells #[.int .u64 (ri.1:Int),.slice Ra m Rc] 33)=W8:=⟨_,rfl⟩;(have hB8:Below wr.heap.size wr W8:=by rw[←hW8];exact(Below.refl _ wr).alloc (Nat.le_refl _) _);(have hS8:S2L wr.heap.size 0 ri.1 Ra m Rc W8.drew:=by rw[←hW8];exact⟨by simp,by simp⟩);(have hws:wr.heap.size<W8.heap.size:=by rw[←hW8];simp);rw[hW8];clear hW8 d0 d1;have HB8:Hid (Below w7.heap.size w7 W8∧Below wr.heap.size wr W8∧wr.heap.size<W8.heap.size):=⟨HB.out.1.trans (hB8.mono HB.out.1.size),hB8,hws⟩;(have HSn:Hid (∀W,Below w7.heap.size w7 W→Since w (18000000+(4+preL LL (j+1))) W b q5 g v fp6 s6):=fun W hW=>H7.out.1.on hW);obtain⟨fi,hfi⟩:∃fi,ri.1=fi:=⟨_,rfl⟩;rw[hfi]at hS8;clear hB8 hws;cases t with
         |true=>
          refine region_at (S:=S2L wr.heap.size 0 fi Ra m Rc) 9 rfl (by kernel_rfl) hS8 (fun hHeld=>?_);refine tq2 S2L.facts 0 66 1 67 ?_;simp only[sZa,sZb,sZc];refine pk (i:=2) 68 rfl rfl (by kernel_rfl) (fun _ _ _ h=>h) (by rfl) (by assumption) ?_;simp only[sZa,sZb,sZc];refine pk (i:=4) 70 rfl rfl (by kernel_rfl) (fun _ _ _ h=>h) (by rfl) (by assumption) ?_;simp only[sZa,sZb,sZc];refine pk (i:=5) 71 rfl rfl (by kernel_rfl) (fun _ _ _ h=>h) (by rfl) (by assumption) ?_;simp only[sZa,sZb,sZc];refine pk (i:=3) 69 rfl rfl (by kernel_rfl) (fun _ _ _ h=>h) (by rfl) (by assumption) ?_;simp only[sZa,sZb,sZc];refine pk (i:=6) 72 rfl rfl (by kernel_rfl) (fun _ _ _ h=>h) (by rfl) (by assumption) ?_;simp only[sZa,sZb,sZc];refine tq2 S2L.facts 7 73 8 15 ?_;simp only[sZa,sZb,sZc];refine wpAnyH_done (by kernel_rfl) ?_ _;clear hHeld hS8;go_wp2_with fail
          go_roundw
          (case rel=>exact⟨i+1,true,by go_num,HLi.out,rfl,fun _=>rfl,HB8.out.1.drew⟩);case measure=>have:=HLi.out;simp[intOf];omega
         |false=>
          refine region_at (S:=S2L wr.heap.size 0 fi Ra m Rc) 9 rfl (by kernel_rfl) hS8 (fun hHeld=>?_);refine tq4 S2L.facts 0 66 1 67 2 68 4 70 ?_;simp only[sZa,sZb,sZc];refine tq S2L.facts 5 71 ?_;simp only[sZa,sZb,sZc];refine one_call (i:=3) (w0:=W8.drew) 69 16 #[.pointer (some ⟨b,0,none⟩)] (by kernel_rfl) rfl rfl (by rfl) (by kernel_rfl) ?_;refine(first_since (HSn.out _ HB8.out.1.drew) _ rfl).mono ?_;rintro e w9 ⟨rfl,rfl⟩;refine⟨_,rfl,hS8,fun hHeld1=>?_⟩;simp only[sZa,sZb,sZc];refine one_call (i:=6) (w0:=W8.drew) 72 17 #[.int .u64 (g.first:Int),.slice la ln lc,.agg #[.int .u64 (fi:Int),.slice Ra m Rc]] (by kernel_rfl) rfl rfl (by rfl) (by kernel_rfl) ?_;refine(Fits_any W8.drew g.first fi g.L ri.2 (.slice la ln lc) (.slice Ra m Rc) (H7.out.2.2.2.below HB8.out.1.drew) (HLV.out.below HB8.out.2.1.drew) (by have:=HG.out.2.2.sm.fl;omega) (by omega) (by have:=HG.out.2.2.sm.fl;omega) (by omega)).mono ?_;rintro e w9 ⟨hb9,t,rfl,ht⟩;have hS9:S2L wr.heap.size 0 fi Ra m Rc w9:=hS8.below hb9 HB8.out.2.2;have H9:Hid (Below w7.heap.size w7 w9∧(im<i+1→t=true)):=⟨HB8.out.1.drew.trans (hb9.mono HB8.out.1.size),fun him=>by
           rcases Nat.lt_or_ge im i with h5|h5
           · have h6:=HB.out.2 h5
             cases h6
           · have e5:i=im:=by omega
             refine ht ?_;have h7:=HMi.out e5;have h8:=HW3.out.2.2.1;rw[←h7]at h8;rw[←hfi];exact h8⟩
          refine⟨_,rfl,hS9,fun hHeld3=>?_⟩;simp only[sZa,sZb,sZc];refine tk (i:=7) (v := .bool t) 73 rfl rfl (by kernel_rfl) (fun _ s=>by(have h:=S2L.facts s;clear s;go_simp;first|done|exact rfl|simp_all|(simp;omega))) ?_;simp only[sZa,sZb,sZc];refine tq S2L.facts 8 15 ?_;simp only[sZa,sZb,sZc];refine wpAnyH_done (by kernel_rfl) ?_ _;clear hHeld hHeld1 hHeld3 hS8 hS9 hb9 ht;go_wp2_with fail
          go_roundw
          (case rel=>exact⟨i+1,t,by go_num,HLi.out,rfl,H9.out.2,H9.out.1⟩);case measure=>have:=HLi.out;simp[intOf];omega
       · have him:i=M.length:=by omega
         subst him;have htt:t=true:=HB.out.2 (by omega);subst htt;(have hle:¬(M.length:Int)<(M.length:Int):=by omega);clear hbr;go_wp2_with fail;refine⟨⟨j+1,by go_num,hlt,q4,_,fq4,rfl,H7.out.2.2.1.below HB.out.1,H7.out.1.below.trans (HB.out.1.mono H7.out.1.below.size),H4.out.2.2,HG.out.1⟩,?_⟩;simp[intOf];omega
    · have h4':(400:Int)<(L.length:Int):=by omega
      go_wp2_with fail;go_ret;exact⟨rfl,HD.out.2.1⟩
  · have hle:¬(j:Int)<(LL.length:Int):=by omega
    go_wp2_with fail;go_ret;exact⟨rfl,HD.out.2.1⟩
end Go.Proofs.YthecngkdmnadoaaGreat

namespace Go.Proofs.YthecngkdmnadoaaGreat
open Go.ChangeShapes Go.WideShapes Go.ChangeAt Go.RowKit Go.Deep
set_option maxRecDepth 100000
theorem ops5_at{H:Type}{enc:TypeId×Value→H}{W:World}{fuel:Nat}{v:Value}{x:DataW H×List MemPlace}
 (hf:DataW.trod enc Tryz.prog W 0 (fun _=>true) true fuel 23 [v]=some x):∃L,Script5 W v L∧4*L.length+1≤Rows.uptoBulk x.1∧∀o∈L,o.xs.length≤Rows.uptoBulk x.1:=by
 obtain⟨d,p⟩:=x;show ∃L,Script5 W v L∧4*L.length+1≤Rows.uptoBulk d∧∀o∈L,o.xs.length≤Rows.uptoBulk d;rcases open_slice Tryz.underlying23 hf with⟨hcs,hx⟩|⟨a,len,cap,m,n,D,Pl,hcs,_,hl,hm,hmm,hx,hel⟩
 · simp only[List.cons.injEq,and_true]at hcs
   subst hcs;have hbp:=bulk_pos d;exact⟨[],⟨none,0,rfl,Nat.le_refl _,by simp,fun h=>by simp at h⟩,by simpa using hbp,fun o ho=>by cases ho⟩
 · simp only[List.cons.injEq,and_true]at hcs
   subst hcs;(have hlm:len≤m:=by rw[hmm];split<;>omega);have each:∀i,i<m→4≤Rows.uptoBulk (D i)∧∃o:Op5,(o.fits∧o.xs.length≤Rows.uptoBulk (D i))∧∃bv,W.cell? (a.add (i*3))=some (.int .i64 o.kind)∧W.cell? (a.add (i*3+1))=some (.int .i64 o.n)∧W.cell? (a.add (i*3+2))=some bv∧Row W.heap.size W bv o.xs:=by
    intro i hi;obtain⟨cs',h1,h2⟩:=hel i hi;rw[op5Cells]at h1;obtain⟨_,hlen,hcell⟩:=World.cells?_some h1;obtain⟨y0,y1,y2,n2,hxe,_,g0,g1,g2⟩:=trod_struct3 Tryz.underlying36 h2
    match cs',hlen with
    |[v0,v1,v2],_=>
     simp[intCells5,bytesCells5]at g0 g1 g2;obtain⟨z0,e0,_,w0⟩:=DataW.trod_int Tryz.underlying3 g0;obtain⟨z1,e1,_,w1⟩:=DataW.trod_int Tryz.underlying3 g1;obtain⟨xs,hrow,hxl,hxb,hxbk⟩:=bytes_at5 g2;have b0:=bounds_i64 w0;have b1:=bounds_i64 w1;simp only[List.cons.injEq,and_true]at e0 e1;subst e0 e1;have c0:=hcell 0 (by omega);have c1:=hcell 1 (by omega);have c2:=hcell 2 (by omega);rw[add_add]at c0 c1 c2;simp only[Prod.mk.injEq]at hxe;have q0:=bulk_pos y0.1;have q1:=bulk_pos y1.1;have q2:=bulk_pos y2.1;refine⟨?_,⟨z0,z1,xs⟩,⟨⟨b0.1,b0.2,b1.1,b1.2,hxl,hxb⟩,?_⟩,v2,by simpa using c0,by simpa using c1,by simpa using c2,hrow⟩
     all_goals
      rw[hxe.1];simp only[Rows.uptoBulk,Rows.uptoBulkAll];omega
   have hch:∃f:Nat→Op5,∀i,i<m→((f i).fits∧(f i).xs.length≤Rows.uptoBulk (D i))∧∃bv,W.cell? (a.add (i*3))=some (.int .i64 (f i).kind)∧W.cell? (a.add (i*3+1))=some (.int .i64 (f i).n)∧W.cell? (a.add (i*3+2))=some bv∧Row W.heap.size W bv (f i).xs:=
    ⟨fun i=>if hi:i<m then Classical.choose (each i hi).2 else ⟨0,0,[]⟩,fun i hi=>by
     simp only[dif_pos hi];exact Classical.choose_spec (each i hi).2⟩
   obtain⟨f,hfe⟩:=hch;refine⟨(List.range len).map f,⟨some a,cap,by simp,by simpa using hl,by unfold maxLen at hm;simp;omega,fun h0=>?_⟩,?_,?_⟩
   · have h0':0<len:=by simpa using h0
     obtain⟨b,off,rfl⟩:∃b off,a=⟨b,off,none⟩:=by
      obtain⟨_,bv,c0,_⟩:=hfe 0 (by omega);obtain⟨b,off,sp⟩:=a;cases sp with
      |none=>exact⟨b,off,rfl⟩
      |some s=>exfalso;revert c0;unfold Addr.add World.cell?;split<;>simp
     (have hadd:∀j,(⟨b,off,none⟩:Addr).add j=⟨b,off+j,none⟩:=fun j=>by unfold Addr.add;split<;>simp_all);refine⟨b,off,rfl,?_,fun i o hi=>?_⟩
     · obtain⟨_,bv,c0,_⟩:=hfe 0 (by omega)
       rw[hadd]at c0;exact lt_of_cell c0
     · rw[List.getElem?_map]at hi
       have hil:i<len:=by
        cases hr:(List.range len)[i]? with
        |none=>rw[hr]at hi;cases hi
        |some j=>have:=(List.getElem?_eq_some_iff.1 hr).1;simpa using this
       rw[List.getElem?_range hil]at hi;simp only[Option.map_some,Option.some.injEq]at hi;subst hi;obtain⟨q1,bv,c0,c1,c2,q2⟩:=hfe i (by omega);rw[hadd]at c0 c1 c2;exact⟨q1.1,bv,c0,by simpa[Nat.add_assoc]using c1,by simpa[Nat.add_assoc]using c2,q2⟩
   · simp only[Prod.mk.injEq]at hx
     obtain⟨rfl,_⟩:=hx;have h1:=bulk_mul 4 ((List.range len).map D) (fun d hd=>by
      obtain⟨i,hi,rfl⟩:=List.mem_map.1 hd;exact(each i (by have:=List.mem_range.1 hi;omega)).1)
     simp only[Rows.uptoBulk,List.length_map,List.length_range]at h1 ⊢;omega
   · simp only[Prod.mk.injEq]at hx
     obtain⟨rfl,_⟩:=hx;intro o ho;obtain⟨i,hi,rfl⟩:=List.mem_map.1 ho;have hil:=List.mem_range.1 hi;have h1:=(hfe i (by omega)).1.2;have h2:=bulk_mem ((List.range len).map D) (D i) (List.mem_map.2 ⟨i,hi,rfl⟩);simp only[Rows.uptoBulk];omega
theorem scr6Cells:Tryz.prog.cellsOf 23=1:=by kernel_rfl
theorem bulk_sum{H:Type}(D:Nat→DataW H)(f:Nat→List Op5):∀n,(∀i,i<n→4*(f i).length+1≤Rows.uptoBulk (D i))→4*(((List.range n).map f).map List.length).sum≤Rows.uptoBulkAll ((List.range n).map D)
 |0,_=>by simp
 |n+1,h=>by
  have ih:=bulk_sum D f n (fun i hi=>h i (by omega));have h1:=h n (by omega);have ha:∀l:List (DataW H),∀d,Rows.uptoBulkAll (l++[d])=Rows.uptoBulkAll l+Rows.uptoBulk d:=by
   intro l d
   induction l with
   |nil=>simp[Rows.uptoBulkAll]
   |cons e r ih=>simp only[List.cons_append,Rows.uptoBulkAll,ih];omega
  rw[List.range_succ,List.map_append,List.map_append,List.map_append,List.sum_append];simp only[List.map_cons,List.map_nil,List.sum_cons,List.sum_nil,ha];omega
theorem opss_in{H:Type}{enc:TypeId×Value→H}{W:World}{base:Nat}{v:Value}{d:DataW H}{p:List MemPlace}
 (hok:Value.okWide Tryz.prog W .any base 46 v) (h:DataW.Trod enc Tryz.prog W 0 (fun _=>true) true 46 v d p):∃LL,Scripts5 W v LL∧4*(LL.map List.length).sum≤Rows.uptoBulk d∧∀L∈LL,∀o∈L,o.xs.length≤Rows.uptoBulk d:=by
 obtain⟨a0,len,cap,rfl⟩:=okWide_slice Tryz.underlying46 hok;obtain⟨fuel,hf⟩:=h;rcases open_slice Tryz.underlying46 hf with⟨hcs,hx⟩|⟨a,len',cap',m,n,D,Pl,hcs,_,hl,hm,hmm,hx,hel⟩
 · simp[Value.cells]at hcs
   obtain⟨rfl,rfl,rfl⟩:=hcs;exact⟨[],⟨none,0,rfl,Nat.le_refl _,by simp,fun h=>by simp at h⟩,by simp,fun L hL=>by cases hL⟩
 · simp[Value.cells]at hcs
   obtain⟨rfl,rfl,rfl⟩:=hcs;(have hlm:len≤m:=by rw[hmm];split<;>omega);have each:∀i,i<m→∃L:List Op5,(4*L.length+1≤Rows.uptoBulk (D i)∧∀o∈L,o.xs.length≤Rows.uptoBulk (D i))∧∃sv,W.cell? (a.add i)=some sv∧Script5 W sv L:=by
    intro i hi;obtain⟨cs',h1,h2⟩:=hel i hi;rw[scr6Cells]at h1;obtain⟨_,hlen,hcell⟩:=World.cells?_some h1
    match cs',hlen with
    |[v0],_=>
     obtain⟨L,hS,hb,hxb⟩:=ops5_at h2;have c0:=hcell 0 (by omega);refine⟨L,⟨hb,hxb⟩,v0,?_,hS⟩;rw[add_add]at c0;simpa using c0
   have hch:∃f:Nat→List Op5,∀i,i<m→(4*(f i).length+1≤Rows.uptoBulk (D i)∧∀o∈f i,o.xs.length≤Rows.uptoBulk (D i))∧∃sv,W.cell? (a.add i)=some sv∧Script5 W sv (f i):=
    ⟨fun i=>if hi:i<m then Classical.choose (each i hi)else [],fun i hi=>by
     simp only[dif_pos hi];exact Classical.choose_spec (each i hi)⟩
   obtain⟨f,hfe⟩:=hch;refine⟨(List.range len).map f,⟨some a,cap,by simp,by simpa using hl,by unfold maxLen at hm;simp;omega,fun h0=>?_⟩,?_,?_⟩
   · have h0':0<len:=by simpa using h0
     obtain⟨b,off,rfl⟩:∃b off,a=⟨b,off,none⟩:=by
      obtain⟨_,rv,c0,_⟩:=hfe 0 (by omega);obtain⟨b,off,sp⟩:=a;cases sp with
      |none=>exact⟨b,off,rfl⟩
      |some s=>exfalso;revert c0;unfold Addr.add World.cell?;split<;>simp
     (have hadd:∀j,(⟨b,off,none⟩:Addr).add j=⟨b,off+j,none⟩:=fun j=>by unfold Addr.add;split<;>simp_all);refine⟨b,off,rfl,?_,fun i o hi=>?_⟩
     · obtain⟨_,rv,c0,_⟩:=hfe 0 (by omega)
       rw[hadd]at c0;exact lt_of_cell c0
     · rw[List.getElem?_map]at hi
       have hil:i<len:=by
        cases hr:(List.range len)[i]? with
        |none=>rw[hr]at hi;cases hi
        |some j=>have:=(List.getElem?_eq_some_iff.1 hr).1;simpa using this
       rw[List.getElem?_range hil]at hi;simp only[Option.map_some,Option.some.injEq]at hi;subst hi;obtain⟨_,sv,c0,q2⟩:=hfe i (by omega);rw[hadd]at c0;exact⟨sv,c0,q2⟩
   · simp only[Prod.mk.injEq]at hx
     obtain⟨rfl,_⟩:=hx;have h1:=bulk_sum D f len (fun i hi=>(hfe i (by omega)).1.1);simp only[Rows.uptoBulk];omega
   · simp only[Prod.mk.injEq]at hx
     obtain⟨rfl,_⟩:=hx;intro L hL o ho;obtain⟨i,hi,rfl⟩:=List.mem_map.1 hL;have hil:=List.mem_range.1 hi;have h1:=(hfe i (by omega)).1.2 o ho;have h2:=bulk_mem ((List.range len).map D) (D i) (List.mem_map.2 ⟨i,hi,rfl⟩);simp only[Rows.uptoBulk];omega
end Go.Proofs.YthecngkdmnadoaaGreat
