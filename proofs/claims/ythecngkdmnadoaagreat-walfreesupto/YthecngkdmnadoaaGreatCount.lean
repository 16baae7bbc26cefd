import Derived.Test.YthecngkdmnadoaaGreatG08
namespace Go.Proofs.YthecngkdmnadoaaGreat
open Go.RowKit
set_option maxRecDepth 100000
def inL(sh:Sh)(a:Int):List (Int×List Nat):=match mget a sh.L with|some x=>x.2|none=>[]
def inF(sh:Sh)(a:Int):List (Int×FS):=match mget a sh.F with|some x=>x.2|none=>[]
def boOf{β:Type}(a:Int)(M:List (Int×Nat×β)):Option Nat:=(mget a M).map (·.1)
theorem lget_in(sh:Sh)(a n:Int):lget sh a n=mget n (inL sh a):=by
 unfold lget inL;cases mget a sh.L<;>rfl
theorem fsGet_in(sh:Sh)(a n:Int):fsGet sh.F a n=mget n (inF sh a):=by
 unfold fsGet inF;cases mget a sh.F<;>rfl
theorem inL_nodup{w:World}{sh:Sh}(h:Held w sh)(a:Int):(keys (inL sh a)).Nodup:=by
 unfold inL;cases hm:mget a sh.L with
 |none=>simp[keys]
 |some x=>exact(h.hli _ (mem_keys_of_mget hm)).1.nodup
theorem inF_nodup{w:World}{sh:Sh}(h:Held w sh)(a:Int):(keys (inF sh a)).Nodup:=by
 unfold inF;cases hm:mget a sh.F with
 |none=>simp[keys]
 |some x=>exact(h.hfi _ (mem_keys_of_mget hm)).1.nodup
theorem inF_vs{w:World}{sh:Sh}(h:Held w sh){a n:Int}{x:FS}(hx:mget n (inF sh a)=some x):x.ok w:=by
 rw[←fsGet_in]at hx;obtain⟨y,hy,hz⟩:=Option.bind_eq_some_iff.1 hx;exact(h.hfi _ (mem_keys_of_mget hy)).2.1 _ (mem_keys_of_mget hz)
theorem len_L{w:World}{sh:Sh}(h:Held w sh)(a:Int)(ty:TypeId):(Builtin.len_ #[94] ty #[atA a sh.L]).run Tryz.prog w = .ok (.int .i64 ((inL sh a).length:Int)) w:=by
 unfold atA inL;cases hm:mget a sh.L with
 |none=>exact len_none Tryz.underlying94 ty
 |some x=>exact(h.hli _ (mem_keys_of_mget hm)).1.len Tryz.underlying94 ty
theorem range_F{w:World}{sh:Sh}(h:Held w sh)(a:Int):∃ob,(Instr.range 88 (atA a sh.F)).run Tryz.prog w = .ok (.pointer (some ⟨w.heap.size,0,none⟩)) (w.alloc ob)∧Ranges .i64 fsV (w.alloc ob) (boOf a sh.F) w.heap.size (inF sh a) []:=by
 unfold atA inF boOf;cases hm:mget a sh.F with
 |none=>exact range_none fsV Tryz.underlying88
 |some x=>exact(h.hfi _ (mem_keys_of_mget hm)).1.range Tryz.underlying88
theorem find_in_maps{w:World}{sh:Sh}{S:List Sec}(h:Held w sh)(hr:Rep sh S)(a n:Int):(findS a n S).isSome=true↔n∈keys (inL sh a)∨n∈keys (inF sh a):=by
 rw[mem_keys,mem_keys,←lget_in,←fsGet_in,hr.last];have hf:=hr.fresh a n;rw[fget_eq]at hf;cases hs:findS a n S with
 |none=>
  rw[hs]at hf;simp only[Option.isSome_none,Option.bind_none,Bool.false_eq_true,false_or,false_iff];intro hx;obtain⟨x,hx⟩:=Option.isSome_iff_exists.1 hx;rw[hx]at hf;have:=(inF_vs h (by rw[←fsGet_in];exact hx)).2.2.2.2;exact this hf
 |some s=>
  rw[hs]at hf;simp only[Option.isSome_some,Option.bind_some,true_iff];rcases hr.there s (findS_mem hs)with h1|h1
  · exact .inl (by cases hl:s.last with|none=>exact absurd hl h1|some v=>rfl)
  · right
    cases hx:fsGet sh.F a n with
    |none=>rw[hx]at hf;exact absurd hf.symm h1
    |some x=>rfl
def cnt(a:Int)(S:List Sec):Nat:=(S.filter fun s=>s.area=a).length
theorem secs_keys{S:List Sec}(hs:S.Pairwise Sec.before)(a:Int):((S.filter fun s=>s.area=a).map (·.n)).Nodup∧∀n,n∈(S.filter fun s=>s.area=a).map (·.n)↔(findS a n S).isSome=true:=by
 constructor
 · rw[List.Nodup,List.pairwise_map]
   refine(hs.filter _).imp_of_mem ?_;intro s t h1 h2 h;simp only[List.mem_filter,decide_eq_true_eq]at h1 h2;unfold Sec.before at h;intro e;omega
 · intro n
   constructor
   · intro h
     obtain⟨s,hm,rfl⟩:=List.mem_map.1 h;simp only[List.mem_filter,decide_eq_true_eq]at hm;have:=findS_self hs hm.1;rw[hm.2]at this;rw[this];rfl
   · intro h
     obtain⟨s,hx⟩:=Option.isSome_iff_exists.1 h;obtain⟨e1,e2⟩:=findS_at hx;exact List.mem_map.2 ⟨s,List.mem_filter.2 ⟨findS_mem hx,by simpa using e1⟩,e2⟩
def only2(A B:List Int):List Int:=B.filter fun k=>k∉A
theorem cnt_eq{w:World}{sh:Sh}{S:List Sec}(h:Held w sh)(hr:Rep sh S)(a:Int){done:List (Int×FS)}(hd:(keys done).Nodup)(hm:∀p∈done,p∈inF sh a)(ha:∀p∈inF sh a,p∈done):(inL sh a).length+(only2 (keys (inL sh a)) (keys done)).length=cnt a S:=by
 obtain⟨k1,k2⟩:=secs_keys hr.sorted a;have hn:(keys (inL sh a)++only2 (keys (inL sh a)) (keys done)).Nodup:=by
  rw[List.nodup_append];refine⟨inL_nodup h a,hd.filter _,fun x hx y hy e=>?_⟩;simp only[only2,List.mem_filter,decide_eq_true_eq]at hy;exact hy.2 (e▸hx)
 have hp:(keys (inL sh a)++only2 (keys (inL sh a)) (keys done)).Perm ((S.filter fun s=>s.area=a).map (·.n)):=by
  rw[List.perm_ext_iff_of_nodup hn k1];intro n;rw[k2,find_in_maps h hr];have hk:n∈keys done↔n∈keys (inF sh a):=by
   constructor
   · intro hx
     obtain⟨p,hp,rfl⟩:=List.mem_map.1 hx;exact List.mem_map.2 ⟨p,hm p hp,rfl⟩
   · intro hx
     obtain⟨p,hp,rfl⟩:=List.mem_map.1 hx;exact List.mem_map.2 ⟨p,ha p hp,rfl⟩
  simp only[List.mem_append,only2,List.mem_filter,decide_eq_true_eq,hk];by_cases e:n∈keys (inL sh a)<;>simp[e]
 have:=hp.length_eq;simpa[keys,cnt]using this
theorem cnt_part{w:World}{sh:Sh}{S:List Sec}(h:Held w sh)(hr:Rep sh S)(a:Int){done:List (Int×FS)}(hd:(keys done).Nodup)(hm:∀p∈done,p∈inF sh a):(inL sh a).length+(only2 (keys (inL sh a)) (keys done)).length≤cnt a S:=by
 rw[←cnt_eq h hr a (inF_nodup h a) (fun p hp=>hp) (fun p hp=>hp)];have:(only2 (keys (inL sh a)) (keys done)).length≤(only2 (keys (inL sh a)) (keys (inF sh a))).length:=by
  refine nodup_len_le _ _ (hd.filter _) fun k hk=>?_
  simp only[only2,List.mem_filter]at hk ⊢;obtain⟨p,hp,rfl⟩:=List.mem_map.1 hk.1;exact⟨List.mem_map.2 ⟨p,hm p hp,rfl⟩,hk.2⟩
 omega
attribute [local go_sem ↓] exec_alloc_ver exec_box_ver exec_load_ver exec_store_ver exec_copy_ver
attribute [local go_sem] verV_cells
theorem only2_snoc(A:List Int)(done:List (Int×FS))(p:Int×FS):(only2 A (keys (done++[p]))).length=(only2 A (keys done)).length+(if p.1∈A then 0 else 1):=by
 simp only[only2,keys,List.map_append,List.map_cons,List.map_nil,List.filter_append,List.length_append];by_cases e:p.1∈A<;>simp[e]
theorem ranges_lt{α:Type}{q:IntKind}{f:α→Value}{w:World}{bo:Option Nat}{r:Nat}{m done:List (Int×α)}(h:Ranges q f w bo r m done){b:Nat}(hb:bo=some b):∃b',b'=b∧b<w.heap.size:=by
 rcases h with⟨h,_⟩|⟨b',_,_,_,_,_,e,hb',_⟩
 · rw[hb]at h;cases h
 · rw[hb]at e
   cases e;exact⟨b,rfl,(Array.getElem?_eq_some_iff.1 hb').1⟩
set_option maxHeartbeats 4000000 in
theorem count_any(N:Nat)(p:Nat)(d:DS)(fp:List Nat)(a:Int)(w:World)(h:DiskAt N w p d fp)(hN:N<1152921504606846976):
 Calls Tryz.prog 54 #[.pointer (some ⟨p,0,none⟩),.int .u64 a] w fun e w'=>e = .returned (.int .i64 (cnt a d.secs:Int))∧Below w.heap.size w w':=by
 have hcl:cnt a d.secs≤N:=Nat.le_trans (List.length_filter_le _ _) h.bounds.2.2.2.2.1;have HD:Hid (DiskAt N w p d fp):=h;obtain⟨sh,h1,h2,h3,_⟩:=h;obtain⟨c0,c1,c2,c3,c4,c5,c6,c7,hz⟩:=disk_cells h1;have hpl:p<w.heap.size:=(Array.getElem?_eq_some_iff.1 h1).1;have HH:Hid (Held w sh):=h2;have HR:Hid (Rep sh d.secs):=h3;have hL:=look_L h2 a;have hF:=look_F h2 a;have hlen:=len_L h2 a 3;clear h1 h2 h3;go_enter Tryz.func54,Tryz.ntmps54;go_wp2_with (at_range;refine wpList_range_at (range_F HH.out a) rfl _ rfl rfl ?_);intro ob hrg;have hb0:Below w.heap.size w (w.alloc ob):=(Below.refl _ _).alloc (Nat.le_refl _) _;have HG:Hid (Ranges .i64 fsV (w.alloc ob) (boOf a sh.F) w.heap.size (inF sh a) []∧Below w.heap.size w (w.alloc ob)):=⟨hrg,hb0⟩;clear hrg hb0 c0 c1 c2 c3 c4 c5 hz hF hL hlen;have C6:Hid (w.cell? ⟨p,6,none⟩=some (.map (some sh.lb))):=c6;clear c6 c7;go_wp2_with fail
 go_loopw [5] (fun v wr=>∃done,v = .int .i64 (((inL sh a).length+(only2 (keys (inL sh a)) (keys done)).length:Nat):Int)∧Ranges .i64 fsV wr (boOf a sh.F) w.heap.size (inF sh a) done∧Below w.heap.size w wr) (fun _ wr=>(inF sh a).length-seenAt wr w.heap.size)
 case atStart=>exact⟨[],by simp[only2,keys],HG.out.1,HG.out.2⟩
 case round=>
  obtain⟨done,rfl,hrg,hb⟩:=hrel;have HB:Hid (Below w.heap.size w wr):=hb;have HRG:Hid (Ranges .i64 fsV wr (boOf a sh.F) w.heap.size (inF sh a) done):=hrg;have hsn:=hrg.seen;clear hrg hb;go_wp2_with (at_next;refine wpList_next_at HRG.out rfl _ rfl rfl ?_ ?_)
  · intro hall
    have hce:=cnt_eq HH.out HR.out a hsn.2.2.1 hsn.2.2.2 hall;have HCE:Hid _:=hce;clear hall hsn hce;go_wp2_with fail;go_ret;exact⟨by rw[←HCE.out];simp,HB.out⟩
  · intro q qv w' hq hk hr2 ho hen
    have hbw:Below w.heap.size w w':=HB.out.trans ⟨ho.os,ho.tape,ho.output,Nat.le_of_eq ho.size.symm,fun k hk=>ho.block k (by omega)⟩;(have hh':Held w' sh:=HH.out.same fun b hb=>hbw.block b (HH.out.lt b hb));have c6':w'.cell? ⟨p,6,none⟩=some (.map (some sh.lb)):=(hbw.cell (p:=⟨p,6,none⟩) hpl).trans C6.out;have hL:=look_L hh' a;have hLi:=look_Li hh' a q;have hl64:((lget sh a q).getD zver).length=64:=by
     cases hg:lget sh a q with
     |none=>exact zver_len
     |some v=>
      obtain⟨y,hy,hz⟩:=Option.bind_eq_some_iff.1 hg;exact(HH.out.hli _ (mem_keys_of_mget hy)).2.1 _ (mem_keys_of_mget hz)
    have hlt:lastT sh a q = .tuple #[verV ((lget sh a q).getD zver),.bool (lget sh a q).isSome]:=by
     rw[lastT];cases lget sh a q<;>rfl
    rw[hlt]at hLi;have hst:=storeV_new w' _ hl64;(have hmk:q∈keys (inL sh a)↔(lget sh a q).isSome=true:=by rw[mem_keys,←lget_in]);have HMK:Hid (q∈keys (inL sh a)↔(lget sh a q).isSome=true):=hmk;have HR2:Hid (Ranges .i64 fsV w' (boOf a sh.F) w.heap.size (inF sh a) (done++[(q,qv)])):=hr2;have HBW:Hid (Below w.heap.size w w'):=hbw;have hs2:=hr2.seen;have hsz:w.heap.size≤w'.heap.size:=hbw.size;have hle:(inL sh a).length+(only2 (keys (inL sh a)) (keys (done++[(q,qv)]))).length≤N:=Nat.le_trans (cnt_part HH.out HR.out a hs2.2.2.1 hs2.2.2.2) hcl;have hstep:=only2_snoc (keys (inL sh a)) done (q,qv);have HST:Hid _:=hstep;(have hle2:(only2 (keys (inL sh a)) (keys done)).length≤(only2 (keys (inL sh a)) (keys (done++[(q,qv)]))).length:=by rw[hstep];omega);(have hlen2:(done++[(q,qv)]).length=done.length+1:=by simp);clear hstep;clear hlt hmk hr2 hbw hh' hq hk ho;cases hsm:(lget sh a q).isSome with
    |true=>
     rw[hsm]at hLi;have HSM:Hid ((lget sh a q).isSome=true):=hsm;clear hsm;go_wp2_with fail
     go_roundw
     case rel=>
      have hr3:=HR2.out;refine⟨done++[(q,qv)],?_,hr3.same (alloc_old _ _ hr3.lt) (fun b hb=>alloc_old _ _ (by obtain⟨b',hb',hlt⟩:=ranges_lt hr3 hb;omega)),HBW.out.alloc hsz _⟩;rw[HST.out,if_pos (HMK.out.2 HSM.out)];simp
     case measure=>
      have h1:=HR2.out.seen.1;have e:seenAt (w'.alloc (.cells (verC ((lget sh a q).getD zver)) 93)) w.heap.size=seenAt w' w.heap.size:=by
       unfold seenAt;rw[alloc_old _ _ HR2.out.lt]
      rw[e];omega
    |false=>
     rw[hsm]at hLi;have HSM:Hid ((lget sh a q).isSome=false):=hsm;clear hsm;go_wp2_with fail
     go_roundw
     case rel=>
      have hr3:=HR2.out;refine⟨done++[(q,qv)],?_,hr3.same (alloc_old _ _ hr3.lt) (fun b hb=>alloc_old _ _ (by obtain⟨b',hb',hlt⟩:=ranges_lt hr3 hb;omega)),HBW.out.alloc hsz _⟩;rw[HST.out,if_neg (fun hm=>by have:=HMK.out.1 hm;rw[HSM.out]at this;cases this)]
      go_num
     case measure=>
      have h1:=HR2.out.seen.1;have e:seenAt (w'.alloc (.cells (verC ((lget sh a q).getD zver)) 93)) w.heap.size=seenAt w' w.heap.size:=by
       unfold seenAt;rw[alloc_old _ _ HR2.out.lt]
      rw[e];omega
end Go.Proofs.YthecngkdmnadoaaGreat
