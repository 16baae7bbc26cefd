/- Texts that were written apart, joined. -/
import Derived.Test.YthecngkdmnadoaaGreatG06
import Derived.Test.YthecngkdmnadoaaGreatDrawn
namespace Go.Proofs.YthecngkdmnadoaaGreat
open Go.RowKit
set_option maxRecDepth 100000
theorem last_is(N:Nat)(p:Nat)(d:DS)(fp:List Nat)(a n:Int)(w:World)(h:DiskAt N w p d fp)(hN:N<1152921504606846976)(b:Bool)(cv:List Nat)(hb:(curOf d.secs a n).isSome=b)(hc:(curOf d.secs a n).getD zver=cv):
 Calls Tryz.prog 50 #[.pointer (some ⟨p,0,none⟩),.int .u64 a,.int .i64 n] w fun e w'=>e = .returned (.tuple #[verV cv,.bool b])∧Below w.heap.size w w':=by
 subst hb;subst hc;exact last_any N p d fp a n w h hN
def SW(p:Nat)(fb vb:Nat)(v:List Nat)(W:World):Prop:=W.cell? ⟨p,7,none⟩=some (.map (some fb))∧W.heap[vb]?=some (.cells (verC v) 93 (0,0))∧v.length=64
theorem SW.facts{p fb vb:Nat}{v:List Nat}{W:World}(h:SW p fb vb v W):W.cell? ⟨p,7,none⟩=some (.map (some fb))∧loadV Tryz.prog (.pointer (some ⟨vb,0,none⟩)) W = .ok (verV v) W:=
 ⟨h.1,run_load_ver _ _ _ v h.2.2 (range_block h.2.1)⟩
theorem SW.same{p fb vb:Nat}{v:List Nat}{W W':World}(h:SW p fb vb v W)(hp:W'.heap[p]?=W.heap[p]?)(hv:W'.heap[vb]?=W.heap[vb]?):SW p fb vb v W':=
 ⟨(World.cell?_of_block (w:=W) (a:=⟨p,7,none⟩) hp).trans h.1,hv.trans h.2.1,h.2.2⟩
attribute [local go_sem ↓] exec_alloc_ver exec_box_ver exec_load_ver exec_store_ver exec_copy_ver
attribute [local go_sem] verV_cells
set_option maxHeartbeats 4000000 in
theorem Write_there(N:Nat)(p:Nat)(d:DS)(fp:List Nat)(a n:Int)(y:Value)(xs:List Nat)(w:World)(h:DiskAt N w p d fp)(hr:RowX fp w y xs)(hd:d.dead=false)(h1:0≤n)(h2:n<65536)(h3:xs.length≤64)(hf:(findS a n d.secs).isSome=true)(hN:N<1099511627776):
 Calls Tryz.prog 25 #[.pointer (some ⟨p,0,none⟩),.int .u64 a,.int .i64 n,y] w (WriteSays N p d fp a n xs w):=by
 have HD:Hid (DiskAt N w p d fp):=h;have HR:Hid (RowX fp w y xs):=hr;have HX:Hid (¬d.dead=true):=fun e=>by rw[hd]at e;cases e
 have HF:Hid ((findS a n d.secs).isSome=true):=hf;have hc64:=h.cur_len a n;have hcs:(curOf d.secs a n).isSome=true:=(h.cur_find a n).trans hf;obtain⟨lb,fb,hb⟩:=h.cells;obtain⟨c0,c1,c2,c3,c4,c5,c6,c7,hz⟩:=disk_cells hb;obtain⟨ao,cap,rfl,hcap⟩:=hr.1.shape;rw[hd]at c3;clear hb h hd hr hf;have h3':(xs.length:Int)≤64:=by omega
 have HC:Hid ((curOf d.secs a n).isSome=true):=hcs;clear hcs;generalize hcv:(curOf d.secs a n).getD zver=cv at *;have HV:Hid ((curOf d.secs a n).getD zver=cv):=hcv;clear hcv;go_enter Tryz.func25,Tryz.ntmps25;go_wp2_with fail;refine(last_is N p d fp a n w HD.out (by omega) true cv HC.out HV.out).mono ?_;rintro e w1 ⟨rfl,hb1⟩;have hst:=storeV_new w1 cv hc64;have HB1:Hid (Below w.heap.size w w1):=hb1;clear hb1;go_wp2_with fail;have hd1:DiskAt N (w1.alloc (.cells (verC cv) 93)) p d fp:=(HD.out.below HB1.out).below ((Below.refl _ _).alloc (Nat.le_refl _) _);have hB1:Below w.heap.size w (w1.alloc (.cells (verC cv) 93)):=HB1.out.alloc HB1.out.size _;have HO1:Hid (Only fp w (w1.alloc (.cells (verC cv) 93))):=Only.of_below hB1;have hs1:w.heap.size≤w1.heap.size:=HB1.out.size;clear hB1 c0 c1 c2 c3 c4 c5 c6 c7 hz hst;refine(step_any N p d fp _ hd1 (by omega)).mono ?_;rintro e w2 ⟨rfl,hd2,ho2⟩;have HO2:Hid (Only fp w w2):=HO1.out.then (Only.of_one ho2 hd1.mem) fun x hx=>hx
 have hs2:w.heap.size≤w2.heap.size:=HO2.out.size;have HR2:Hid (RowX fp w2 (.slice ao xs.length cap) xs):=HR.out.only HO2.out;have HD2:Hid (DiskAt (N+1) w2 p (stepD d) fp):=hd2;have hcp:=copyV_new _ w2 _ xs 3 HR2.out.1 h3;clear hd1 ho2 hd2;go_wp2_with fail;have hp64:(pad xs).length=64:=pad_len h3;obtain⟨sh,k1,k2,k3,k4,k5,k6⟩:=HD2.out;have hpl:p<w2.heap.size:=(Array.getElem?_eq_some_iff.1 k1).1;have hvn:w2.heap.size∉p::sh.blocks:=fun hm=>by
  rw[←k4]at hm;have:=HD2.out.lt _ hm;omega
 rw[k4]at k5;have hlen:(wr a n (pad xs) (stepD d).secs).length=(stepD d).secs.length:=by rw[wr_len k3.sorted,(stepD_secs d).1,if_pos HF.out]
 have HK:Hid ((w2.alloc (.cells (verC (pad xs)) 93)).heap[p]?=some (dC (stepD d).room ((wr a n (pad xs) (stepD d).secs).length:Int) (stepD d).steps (stepD d).dead (stepD d).armed (stepD d).ahead sh.lb sh.fb)):=by
  show _=_;rw[alloc_old _ _ hpl,hlen];exact k1
 have HO:Hid (Only fp w (w2.alloc (.cells (verC (pad xs)) 93))):=HO2.out.then (Only.of_below (fp:=fp) ((Below.refl _ _).alloc (Nat.le_refl _) _)) fun x hx=>hx
 have hWs:w2.heap.size<(w2.alloc (.cells (verC (pad xs)) 93)).heap.size:=by simp
 have HV2:Hid ((w2.alloc (.cells (verC (pad xs)) 93)).heap[w2.heap.size]?=some (.cells (verC (pad xs)) 93 (0,0))):=alloc_new _ _;have HH:Hid (Held (w2.alloc (.cells (verC (pad xs)) 93)) sh):=held_new k2 _;have hb6:((wr a n (pad xs) (stepD d).secs).length:Int)≤(stepD d).room:=by rw[hlen];exact k6.2.2.2.2.2.1
 have hb5:(stepD d).secs.length≤N:=by
  rw[(stepD_secs d).1];exact HD.out.bounds.2.2.2.2.1
 have hb7:Hid (∀s∈(stepD d).secs,s.fresh.length≤N):=by
  show ∀s∈(stepD d).secs,_;rw[(stepD_secs d).1];exact HD.out.bounds.2.2.2.2.2.2.1
 have hE:Hid (wrE d a n xs=stepE d):=by
  show _=_;rw[wrE,if_neg HX.out,if_neg (by unfold formBad;omega),if_neg (fun hh=>by have:=hh.1;rw[HF.out]at this;cases this)]
 have hDD:Hid (wrD d a n xs={ stepD d with secs:=wr a n (pad xs) (stepD d).secs }):=by
  show _=_;rw[wrD,if_neg HX.out,if_neg (by unfold formBad;omega),if_neg (fun hh=>by have:=hh.1;rw[HF.out]at this;cases this),(stepD_secs d).1]
 have K3:Hid (Rep sh (stepD d).secs):=k3;have K5:Hid ((p::sh.blocks).Nodup):=k5;have K6:Hid _:=k6;have K4:Hid (fp=p::sh.blocks):=k4;clear k1 k2 k3 k4 k5 k6;generalize w2.alloc (.cells (verC (pad xs)) 93)=W at *;generalize w2.heap.size=vb at *;have hpW:p<W.heap.size:=(Array.getElem?_eq_some_iff.1 HK.out).1;have HS:Hid (SW p sh.fb vb (pad xs) W):=⟨(disk_cells HK.out).2.2.2.2.2.2.2.1,HV2.out,hp64⟩;refine region_at (S:=SW p sh.fb vb (pad xs)) 18 rfl (by kernel_rfl) HS.out (fun hHeld=>?_);refine tq4 SW.facts 0 56 1 57 2 58 3 59 ?_;simp only[sZa,sZb,sZc];refine tq4 SW.facts 4 60 5 61 6 62 7 63 ?_;simp only[sZa,sZb,sZc];refine tq4 SW.facts 8 64 9 65 10 66 12 68 ?_;simp only[sZa,sZb,sZc];refine tk (i:=14) (v:=verV (pad xs)) 70 rfl rfl (by kernel_rfl) (fun w hSw=>?_) ?_
 · refine(exec_load_ver _ (.tmp 12) _ _ _ _ _ w).trans ?_
   show Result.andThen (loadV Tryz.prog (.pointer (some ⟨vb,0,none⟩)) w) _=_;rw[(SW.facts hSw).2];rfl
 simp only[sZa,sZb,sZc];have hhd:Held W.drew sh:=HH.out.same fun _ _=>rfl
 have hhb:Held (W.drew.alloc (.cells (verC (pad xs)) 93)) sh:=held_new hhd _;have hSb:SW p sh.fb vb (pad xs) (W.drew.alloc (.cells (verC (pad xs)) 93)):=HS.out.same (alloc_old W.drew _ hpW) (alloc_old W.drew _ hWs);refine two_value (i:=11) (j:=15) (v:=atA a sh.F) 67 71 (by kernel_rfl) rfl rfl rfl rfl (by rfl) (by rfl) ?_ hHeld (fun hHeld=>?_) (buildV _ (.tmp 70) (pad xs) rfl hp64 _ _ _ _ _ _) hSb (fun hHeld=>?_)
 · refine(exec_lookup _ (.tmp 65) (.tmp 66) false _ _ _ _ _ _ _).trans ?_
   exact congrArg (fun r=>Result.andThen r (fun v w'=>Result.ok (Next.value v) w')) (look_F hhd a)
 · simp only[sZa,sZb,sZc]
   refine two_value (i:=13) (j:=15) (v:=fsAt sh a n) 69 71 (by kernel_rfl) rfl rfl rfl rfl (by rfl) (by rfl) ?_ hHeld (fun hHeld=>?_) (buildV _ (.tmp 70) (pad xs) rfl hp64 _ _ _ _ _ _) hSb (fun hHeld=>?_)
   · refine(exec_lookup _ (.tmp 67) (.tmp 68) false _ _ _ _ _ _ _).trans ?_
     exact congrArg (fun r=>Result.andThen r (fun v w'=>Result.ok (Next.value v) w')) (look_Fi hhd a n)
   · simp only[sZa,sZb,sZc]
     refine one_value (i:=15) 71 (by kernel_rfl) rfl rfl (by rfl) (buildV _ (.tmp 70) (pad xs) rfl hp64 _ _ _ _ _ _) hSb (fun hHeld=>?_);simp only[sZa,sZb,sZc];obtain⟨hrow,hv64,hob⟩:=fs_row hhb a n;have hnl:(fget sh a n).length≤N:=by
      rw[K3.out.fresh];cases hfs:findS a n (stepD d).secs with
      |none=>simp
      |some s=>exact hb7.out s (findS_mem hfs)
     refine one_at (i:=16) 72 (by kernel_rfl) rfl rfl (by rfl) (fun K hK=>?_);refine wp_append_ver (.tmp 69) (.tmp 71) rfl (fsAt sh a n) (fget sh a n).length (flat (fget sh a n)) rfl hrow _ (pad xs) rfl (alloc_new W.drew _) hp64 (by omega) ?_;intro v' W2 hown hgrow hne hloc;obtain⟨x',rfl,hxv,hxok⟩:=fs_of_row hown hne hv64 hp64;obtain⟨q1,q2,⟨q3,q4,q5⟩,q6,q7,q8⟩:=app_facts HH.out K5.out hpW hWs hvn hgrow hloc;have hS2:SW p sh.fb vb (pad xs) W2:=HS.out.same q7 q8;refine hK _ _ hS2 (fun hHeld=>?_);simp only[sZa,sZb,sZc];refine one_call (i:=17) (w0:=W2) 73 53 #[.map (some sh.fb),.int .u64 a,.int .i64 n,fsV x'] (by kernel_rfl) rfl rfl (by rfl) (by kernel_rfl) ?_;refine(putF_any sh.fb sh.F a n x' W2 (two_of_held HH.out K5.out q2)).mono ?_;rintro e W3 ⟨rfl,hput⟩;(have hvn2:vb∉sh.blocks:=fun hm=>hvn (.tail _ hm));refine⟨_,rfl,hS2.same (put_far hput (by omega) (List.nodup_cons.1 K5.out).1) (put_far hput (by omega) hvn2),fun _=>?_⟩;refine wpAnyH_done (by kernel_rfl) ?_ _;obtain⟨b1,b2,b3,b4,_,_,_,b8,b9,b10⟩:=HD2.out.bounds;obtain⟨fp',r1,r2,r3⟩:=disk_write HH.out K3.out K5.out HK.out b1 b2 b3 b4 hb5 hb6 hb7.out b8 b9 b10 q1 q2 q3 q4 q5 hxok hxv q6 hput;have hW0:=HO.out.size;go_wp2_with fail;go_ret;refine⟨by rw[hE.out];rfl,fp',by rw[hDD.out];exact r1,HO.out.trans r2 (fun x hx => .inl (by rw[K4.out];exact hx)),fun b hb=>?_⟩;rcases r3 b hb with hb|hb
     · exact .inl (by rw[K4.out];exact hb)
     · exact .inr (by omega)
   · simp only[sZa,sZb,sZc]
     refine one_value (i:=13) (v:=fsAt sh a n) 69 (by kernel_rfl) rfl rfl (by rfl) ?_ hSb (fun hHeld=>?_)
     · refine(exec_lookup _ (.tmp 67) (.tmp 68) false _ _ _ _ _ _ _).trans ?_
       exact congrArg (fun r=>Result.andThen r (fun v w'=>Result.ok (Next.value v) w')) (look_Fi hhb a n)
     simp only[sZa,sZb,sZc];obtain⟨hrow,hv64,hob⟩:=fs_row hhb a n;have hnl:(fget sh a n).length≤N:=by
      rw[K3.out.fresh];cases hfs:findS a n (stepD d).secs with
      |none=>simp
      |some s=>exact hb7.out s (findS_mem hfs)
     refine one_at (i:=16) 72 (by kernel_rfl) rfl rfl (by rfl) (fun K hK=>?_);refine wp_append_ver (.tmp 69) (.tmp 71) rfl (fsAt sh a n) (fget sh a n).length (flat (fget sh a n)) rfl hrow _ (pad xs) rfl (alloc_new W.drew _) hp64 (by omega) ?_;intro v' W2 hown hgrow hne hloc;obtain⟨x',rfl,hxv,hxok⟩:=fs_of_row hown hne hv64 hp64;obtain⟨q1,q2,⟨q3,q4,q5⟩,q6,q7,q8⟩:=app_facts HH.out K5.out hpW hWs hvn hgrow hloc;have hS2:SW p sh.fb vb (pad xs) W2:=HS.out.same q7 q8;refine hK _ _ hS2 (fun hHeld=>?_);simp only[sZa,sZb,sZc];refine one_call (i:=17) (w0:=W2) 73 53 #[.map (some sh.fb),.int .u64 a,.int .i64 n,fsV x'] (by kernel_rfl) rfl rfl (by rfl) (by kernel_rfl) ?_;refine(putF_any sh.fb sh.F a n x' W2 (two_of_held HH.out K5.out q2)).mono ?_;rintro e W3 ⟨rfl,hput⟩;(have hvn2:vb∉sh.blocks:=fun hm=>hvn (.tail _ hm));refine⟨_,rfl,hS2.same (put_far hput (by omega) (List.nodup_cons.1 K5.out).1) (put_far hput (by omega) hvn2),fun _=>?_⟩;refine wpAnyH_done (by kernel_rfl) ?_ _;obtain⟨b1,b2,b3,b4,_,_,_,b8,b9,b10⟩:=HD2.out.bounds;obtain⟨fp',r1,r2,r3⟩:=disk_write HH.out K3.out K5.out HK.out b1 b2 b3 b4 hb5 hb6 hb7.out b8 b9 b10 q1 q2 q3 q4 q5 hxok hxv q6 hput;have hW0:=HO.out.size;go_wp2_with fail;go_ret;refine⟨by rw[hE.out];rfl,fp',by rw[hDD.out];exact r1,HO.out.trans r2 (fun x hx => .inl (by rw[K4.out];exact hx)),fun b hb=>?_⟩;rcases r3 b hb with hb|hb
     · exact .inl (by rw[K4.out];exact hb)
     · exact .inr (by omega)
 · simp only[sZa,sZb,sZc]
   refine one_value (i:=11) (v:=atA a sh.F) 67 (by kernel_rfl) rfl rfl (by rfl) ?_ hSb (fun hHeld=>?_)
   · refine(exec_lookup _ (.tmp 65) (.tmp 66) false _ _ _ _ _ _ _).trans ?_
     exact congrArg (fun r=>Result.andThen r (fun v w'=>Result.ok (Next.value v) w')) (look_F hhb a)
   simp only[sZa,sZb,sZc];refine one_value (i:=13) (v:=fsAt sh a n) 69 (by kernel_rfl) rfl rfl (by rfl) ?_ hSb (fun hHeld=>?_)
   · refine(exec_lookup _ (.tmp 67) (.tmp 68) false _ _ _ _ _ _ _).trans ?_
     exact congrArg (fun r=>Result.andThen r (fun v w'=>Result.ok (Next.value v) w')) (look_Fi hhb a n)
   simp only[sZa,sZb,sZc];obtain⟨hrow,hv64,hob⟩:=fs_row hhb a n;have hnl:(fget sh a n).length≤N:=by
    rw[K3.out.fresh];cases hfs:findS a n (stepD d).secs with
    |none=>simp
    |some s=>exact hb7.out s (findS_mem hfs)
   refine one_at (i:=16) 72 (by kernel_rfl) rfl rfl (by rfl) (fun K hK=>?_);refine wp_append_ver (.tmp 69) (.tmp 71) rfl (fsAt sh a n) (fget sh a n).length (flat (fget sh a n)) rfl hrow _ (pad xs) rfl (alloc_new W.drew _) hp64 (by omega) ?_;intro v' W2 hown hgrow hne hloc;obtain⟨x',rfl,hxv,hxok⟩:=fs_of_row hown hne hv64 hp64;obtain⟨q1,q2,⟨q3,q4,q5⟩,q6,q7,q8⟩:=app_facts HH.out K5.out hpW hWs hvn hgrow hloc;have hS2:SW p sh.fb vb (pad xs) W2:=HS.out.same q7 q8;refine hK _ _ hS2 (fun hHeld=>?_);simp only[sZa,sZb,sZc];refine one_call (i:=17) (w0:=W2) 73 53 #[.map (some sh.fb),.int .u64 a,.int .i64 n,fsV x'] (by kernel_rfl) rfl rfl (by rfl) (by kernel_rfl) ?_;refine(putF_any sh.fb sh.F a n x' W2 (two_of_held HH.out K5.out q2)).mono ?_;rintro e W3 ⟨rfl,hput⟩;(have hvn2:vb∉sh.blocks:=fun hm=>hvn (.tail _ hm));refine⟨_,rfl,hS2.same (put_far hput (by omega) (List.nodup_cons.1 K5.out).1) (put_far hput (by omega) hvn2),fun _=>?_⟩;refine wpAnyH_done (by kernel_rfl) ?_ _;obtain⟨b1,b2,b3,b4,_,_,_,b8,b9,b10⟩:=HD2.out.bounds;obtain⟨fp',r1,r2,r3⟩:=disk_write HH.out K3.out K5.out HK.out b1 b2 b3 b4 hb5 hb6 hb7.out b8 b9 b10 q1 q2 q3 q4 q5 hxok hxv q6 hput;have hW0:=HO.out.size;go_wp2_with fail;go_ret;refine⟨by rw[hE.out];rfl,fp',by rw[hDD.out];exact r1,HO.out.trans r2 (fun x hx => .inl (by rw[K4.out];exact hx)),fun b hb=>?_⟩;rcases r3 b hb with hb|hb
   · exact .inl (by rw[K4.out];exact hb)
   · exact .inr (by omega)
set_option maxHeartbeats 4000000 in
theorem Write_full(N:Nat)(p:Nat)(d:DS)(fp:List Nat)(a n:Int)(y:Value)(xs:List Nat)(w:World)(h:DiskAt N w p d fp)(hr:RowX fp w y xs)(hd:d.dead=false)(h1:0≤n)(h2:n<65536)(h3:xs.length≤64)(hf:fullBad d a n)(hN:N<1099511627776):
 Calls Tryz.prog 25 #[.pointer (some ⟨p,0,none⟩),.int .u64 a,.int .i64 n,y] w (WriteSays N p d fp a n xs w):=by
 have HD:Hid (DiskAt N w p d fp):=h;have HX:Hid (¬d.dead=true):=fun e=>by rw[hd]at e;cases e
 have HF:Hid (fullBad d a n):=hf;have hc64:=h.cur_len a n;have hcs:(curOf d.secs a n).isSome=false:=(h.cur_find a n).trans hf.1;have h0:d.room-(d.secs.length:Int)=0:=by have:=hf.2;omega
 obtain⟨lb,fb,hb⟩:=h.cells;obtain⟨c0,c1,c2,c3,c4,c5,c6,c7,hz⟩:=disk_cells hb;obtain⟨ao,cap,rfl,hcap⟩:=hr.1.shape;rw[hd]at c3;have H0:Hid (d.room-(d.secs.length:Int)=0):=h0;clear hb h hd hr hf h0;have h3':(xs.length:Int)≤64:=by omega
 have HC:Hid ((curOf d.secs a n).isSome=false):=hcs;clear hcs;generalize hcv:(curOf d.secs a n).getD zver=cv at *;have HV:Hid ((curOf d.secs a n).getD zver=cv):=hcv;clear hcv;go_enter Tryz.func25,Tryz.ntmps25;go_wp2_with fail;refine(last_is N p d fp a n w HD.out (by omega) false cv HC.out HV.out).mono ?_;rintro e w1 ⟨rfl,hb1⟩;have hst:=storeV_new w1 cv hc64;have HB1:Hid (Below w.heap.size w w1):=hb1;clear hb1;go_wp2_with fail;have hd1:DiskAt N (w1.alloc (.cells (verC cv) 93)) p d fp:=(HD.out.below HB1.out).below ((Below.refl _ _).alloc (Nat.le_refl _) _);have hB1:Below w.heap.size w (w1.alloc (.cells (verC cv) 93)):=HB1.out.alloc HB1.out.size _;refine(Room_any N p d fp _ hd1).mono ?_;rintro e w2 ⟨rfl,nq,rfl⟩;rw[H0.out];have HO:Hid (Only fp w ((w1.alloc (.cells (verC cv) 93)).drewN nq)):=(Only.of_below hB1).drewN nq;have hD:Hid (DiskAt N ((w1.alloc (.cells (verC cv) 93)).drewN nq) p d fp):=hd1.same fun _ _=>rfl
 clear hd1 hB1;go_wp2_with fail;go_ret;have nf:¬formBad n xs:=by unfold formBad;omega
 exact⟨by rw[wrE,if_neg HX.out,if_neg nf,if_pos HF.out];rfl,fp,by rw[wrD,if_neg HX.out,if_neg nf,if_pos HF.out];exact hD.out.mono (by omega),HO.out,fun b hb => .inl hb⟩
set_option maxHeartbeats 4000000 in
theorem Write_new(N:Nat)(p:Nat)(d:DS)(fp:List Nat)(a n:Int)(y:Value)(xs:List Nat)(w:World)(h:DiskAt N w p d fp)(hr:RowX fp w y xs)(hd:d.dead=false)(h1:0≤n)(h2:n<65536)(h3:xs.length≤64)(hf:(findS a n d.secs).isSome=false)(hroom:d.room≠d.secs.length)(hN:N<1099511627776):
 Calls Tryz.prog 25 #[.pointer (some ⟨p,0,none⟩),.int .u64 a,.int .i64 n,y] w (WriteSays N p d fp a n xs w):=by
 have HD:Hid (DiskAt N w p d fp):=h;have HR:Hid (RowX fp w y xs):=hr;have HX:Hid (¬d.dead=true):=fun e=>by rw[hd]at e;cases e
 have HF:Hid ((findS a n d.secs).isSome=false):=hf;have HM:Hid (d.room≠d.secs.length):=hroom;have hc64:=h.cur_len a n;have hcs:(curOf d.secs a n).isSome=false:=(h.cur_find a n).trans hf;obtain⟨lb,fb,hb⟩:=h.cells;obtain⟨c0,c1,c2,c3,c4,c5,c6,c7,hz⟩:=disk_cells hb;obtain⟨ao,cap,rfl,hcap⟩:=hr.1.shape;rw[hd]at c3;clear hb h hd hr hf hroom;have h3':(xs.length:Int)≤64:=by omega
 have HC:Hid ((curOf d.secs a n).isSome=false):=hcs;clear hcs;generalize hcv:(curOf d.secs a n).getD zver=cv at *;have HV:Hid ((curOf d.secs a n).getD zver=cv):=hcv;clear hcv;go_enter Tryz.func25,Tryz.ntmps25;go_wp2_with fail;refine(last_is N p d fp a n w HD.out (by omega) false cv HC.out HV.out).mono ?_;rintro e w1 ⟨rfl,hb1⟩;have hst:=storeV_new w1 cv hc64;have HB1:Hid (Below w.heap.size w w1):=hb1;clear hb1;go_wp2_with fail;have hd0:DiskAt N (w1.alloc (.cells (verC cv) 93)) p d fp:=(HD.out.below HB1.out).below ((Below.refl _ _).alloc (Nat.le_refl _) _);have hB1:Below w.heap.size w (w1.alloc (.cells (verC cv) 93)):=HB1.out.alloc HB1.out.size _;refine(Room_any N p d fp _ hd0).mono ?_;rintro e w2 ⟨rfl,nq,rfl⟩;have hnz:(d.room-(d.secs.length:Int)==0)=false:=by
  have:=HM.out;rw[beq_eq_false_iff_ne];omega
 have HO1:Hid (Only fp w ((w1.alloc (.cells (verC cv) 93)).drewN nq)):=(Only.of_below hB1).drewN nq;have HD1:Hid (DiskAt N ((w1.alloc (.cells (verC cv) 93)).drewN nq) p d fp):=hd0.same fun _ _=>rfl
 have hs1:w.heap.size≤w1.heap.size:=HB1.out.size;clear hB1 c0 c1 c2 c3 c4 c5 c6 c7 hz hst hd0;go_wp2_with fail;refine(step_any N p d fp _ HD1.out (by omega)).mono ?_;rintro e w20 ⟨rfl,hd2,ho2⟩;obtain⟨lb2,fb2,hb2⟩:=hd2.cells;obtain⟨c0,c1,c2,c3,c4,c5,c6,c7,hz⟩:=disk_cells hb2;have hbt:=hd2.bounds.2.2.2.2.1;have HO20:Hid (Only fp w w20):=HO1.out.then (Only.of_one ho2 HD1.out.mem) fun x hx=>hx
 have HD20:Hid (DiskAt (N+1) w20 p (stepD d) fp):=hd2;have HB2:Hid _:=hb2;clear c0 c2 c3 c4 c5 c6 c7 hd2 ho2 hb2;generalize ht:(stepD d).secs.length=t at *;have HT:Hid ((stepD d).secs.length=t):=ht;clear ht;have HOs:Hid (One p w20 (w20.setCell ⟨p,1,none⟩ (.int .i64 ((t:Int)+1)))):=one_setCell _ _ _ _;have HO2:Hid (Only fp w (w20.setCell ⟨p,1,none⟩ (.int .i64 ((t:Int)+1)))):=HO20.out.then (Only.of_one HOs.out HD20.out.mem) fun x hx=>hx
 have HR2:Hid (RowX fp (w20.setCell ⟨p,1,none⟩ (.int .i64 ((t:Int)+1))) (.slice ao xs.length cap) xs):=HR.out.only HO2.out;have hs20:w.heap.size≤w20.heap.size:=HO20.out.size;have hcp:=copyV_new _ (w20.setCell ⟨p,1,none⟩ (.int .i64 ((t:Int)+1))) _ xs 3 HR2.out.1 h3;have hsz:(w20.setCell ⟨p,1,none⟩ (.int .i64 ((t:Int)+1))).heap.size=w20.heap.size:=HOs.out.size;rw[hsz]at hcp;clear hsz;go_wp2_with fail;have hp64:(pad xs).length=64:=pad_len h3;have HD2:Hid (DiskAt (N+1) w20 p (stepD d) fp):=HD20.out;obtain⟨sh,k1,k2,k3,k4,k5,k6⟩:=HD20.out;have hpl:p<w20.heap.size:=(Array.getElem?_eq_some_iff.1 k1).1;have hvn:w20.heap.size∉p::sh.blocks:=fun hm=>by
  rw[←k4]at hm;have:=HD20.out.lt _ hm;omega
 rw[k4]at k5;have hlen:(wr a n (pad xs) (stepD d).secs).length=t+1:=by rw[wr_len k3.sorted,(stepD_secs d).1,if_neg (by rw[HF.out];simp),←HT.out,(stepD_secs d).1]
 have HH0:Held (w20.setCell ⟨p,1,none⟩ (.int .i64 ((t:Int)+1))) sh:=k2.same fun b hb=>HOs.out.block b fun e=>(List.nodup_cons.1 k5).1 (e▸hb)
 have hK0:(w20.setCell ⟨p,1,none⟩ (.int .i64 ((t:Int)+1))).heap[p]?=some (dC (stepD d).room ((wr a n (pad xs) (stepD d).secs).length:Int) (stepD d).steps (stepD d).dead (stepD d).armed (stepD d).ahead sh.lb sh.fb):=by
  rw[set_cell k1 1 _,hlen];rfl
 have hb6:((wr a n (pad xs) (stepD d).secs).length:Int)≤(stepD d).room:=by
  have h6:=k6.2.2.2.2.2.1;have hm:=HM.out;rw[hlen];rw[(stepD_secs d).1,(stepD_secs d).2]at h6;have ht:=HT.out;rw[(stepD_secs d).1]at ht;rw[(stepD_secs d).2];omega
 have hb5:(stepD d).secs.length≤N:=by
  rw[(stepD_secs d).1];exact HD.out.bounds.2.2.2.2.1
 have hb7:Hid (∀s∈(stepD d).secs,s.fresh.length≤N):=by
  show ∀s∈(stepD d).secs,_;rw[(stepD_secs d).1];exact HD.out.bounds.2.2.2.2.2.2.1
 have nfull:¬fullBad d a n:=fun hh=>HM.out hh.2
 have hE:Hid (wrE d a n xs=stepE d):=by
  show _=_;rw[wrE,if_neg HX.out,if_neg (by unfold formBad;omega),if_neg nfull]
 have hDD:Hid (wrD d a n xs={ stepD d with secs:=wr a n (pad xs) (stepD d).secs }):=by
  show _=_;rw[wrD,if_neg HX.out,if_neg (by unfold formBad;omega),if_neg nfull,(stepD_secs d).1]
 have K3:Hid (Rep sh (stepD d).secs):=k3;have K5:Hid ((p::sh.blocks).Nodup):=k5;have K4:Hid (fp=p::sh.blocks):=k4;have hsz2:(w20.setCell ⟨p,1,none⟩ (.int .i64 ((t:Int)+1))).heap.size=w20.heap.size:=HOs.out.size;rw[←hsz2]at hvn;rw[←hsz2]at hs20;rw[←hsz2]at hpl;rw[←hsz2];clear k1 k2 k3 k4 k5 k6 HOs hcp hz c1 HB2 HR2 hsz2 nfull;generalize w20.setCell ⟨p,1,none⟩ (.int .i64 ((t:Int)+1))=w2 at *;have HK:Hid ((w2.alloc (.cells (verC (pad xs)) 93)).heap[p]?=some (dC (stepD d).room ((wr a n (pad xs) (stepD d).secs).length:Int) (stepD d).steps (stepD d).dead (stepD d).armed (stepD d).ahead sh.lb sh.fb)):=by
  show _=_;rw[alloc_old _ _ hpl];exact hK0
 have HO:Hid (Only fp w (w2.alloc (.cells (verC (pad xs)) 93))):=HO2.out.then (Only.of_below (fp:=fp) ((Below.refl _ _).alloc (Nat.le_refl _) _)) fun x hx=>hx
 have hWs:w2.heap.size<(w2.alloc (.cells (verC (pad xs)) 93)).heap.size:=by simp
 have HV2:Hid ((w2.alloc (.cells (verC (pad xs)) 93)).heap[w2.heap.size]?=some (.cells (verC (pad xs)) 93 (0,0))):=alloc_new _ _;have HH:Hid (Held (w2.alloc (.cells (verC (pad xs)) 93)) sh):=held_new HH0 _;clear HH0 hK0 hlen;generalize w2.alloc (.cells (verC (pad xs)) 93)=W at *;generalize w2.heap.size=vb at *;have hpW:p<W.heap.size:=(Array.getElem?_eq_some_iff.1 HK.out).1;have HS:Hid (SW p sh.fb vb (pad xs) W):=⟨(disk_cells HK.out).2.2.2.2.2.2.2.1,HV2.out,hp64⟩;refine region_at (S:=SW p sh.fb vb (pad xs)) 18 rfl (by kernel_rfl) HS.out (fun hHeld=>?_);refine tq4 SW.facts 0 56 1 57 2 58 3 59 ?_;simp only[sZa,sZb,sZc];refine tq4 SW.facts 4 60 5 61 6 62 7 63 ?_;simp only[sZa,sZb,sZc];refine tq4 SW.facts 8 64 9 65 10 66 12 68 ?_;simp only[sZa,sZb,sZc];refine tk (i:=14) (v:=verV (pad xs)) 70 rfl rfl (by kernel_rfl) (fun w hSw=>?_) ?_
 · refine(exec_load_ver _ (.tmp 12) _ _ _ _ _ w).trans ?_
   show Result.andThen (loadV Tryz.prog (.pointer (some ⟨vb,0,none⟩)) w) _=_;rw[(SW.facts hSw).2];rfl
 simp only[sZa,sZb,sZc];have hhd:Held W.drew sh:=HH.out.same fun _ _=>rfl
 have hhb:Held (W.drew.alloc (.cells (verC (pad xs)) 93)) sh:=held_new hhd _;have hSb:SW p sh.fb vb (pad xs) (W.drew.alloc (.cells (verC (pad xs)) 93)):=HS.out.same (alloc_old W.drew _ hpW) (alloc_old W.drew _ hWs);refine two_value (i:=11) (j:=15) (v:=atA a sh.F) 67 71 (by kernel_rfl) rfl rfl rfl rfl (by rfl) (by rfl) ?_ hHeld (fun hHeld=>?_) (buildV _ (.tmp 70) (pad xs) rfl hp64 _ _ _ _ _ _) hSb (fun hHeld=>?_)
 · refine(exec_lookup _ (.tmp 65) (.tmp 66) false _ _ _ _ _ _ _).trans ?_
   exact congrArg (fun r=>Result.andThen r (fun v w'=>Result.ok (Next.value v) w')) (look_F hhd a)
 · simp only[sZa,sZb,sZc]
   refine two_value (i:=13) (j:=15) (v:=fsAt sh a n) 69 71 (by kernel_rfl) rfl rfl rfl rfl (by rfl) (by rfl) ?_ hHeld (fun hHeld=>?_) (buildV _ (.tmp 70) (pad xs) rfl hp64 _ _ _ _ _ _) hSb (fun hHeld=>?_)
   · refine(exec_lookup _ (.tmp 67) (.tmp 68) false _ _ _ _ _ _ _).trans ?_
     exact congrArg (fun r=>Result.andThen r (fun v w'=>Result.ok (Next.value v) w')) (look_Fi hhd a n)
   · simp only[sZa,sZb,sZc]
     refine one_value (i:=15) 71 (by kernel_rfl) rfl rfl (by rfl) (buildV _ (.tmp 70) (pad xs) rfl hp64 _ _ _ _ _ _) hSb (fun hHeld=>?_);simp only[sZa,sZb,sZc];obtain⟨hrow,hv64,hob⟩:=fs_row hhb a n;have hnl:(fget sh a n).length≤N:=by
      rw[K3.out.fresh];cases hfs:findS a n (stepD d).secs with
      |none=>simp
      |some s=>exact hb7.out s (findS_mem hfs)
     refine one_at (i:=16) 72 (by kernel_rfl) rfl rfl (by rfl) (fun K hK=>?_);refine wp_append_ver (.tmp 69) (.tmp 71) rfl (fsAt sh a n) (fget sh a n).length (flat (fget sh a n)) rfl hrow _ (pad xs) rfl (alloc_new W.drew _) hp64 (by omega) ?_;intro v' W2 hown hgrow hne hloc;obtain⟨x',rfl,hxv,hxok⟩:=fs_of_row hown hne hv64 hp64;obtain⟨q1,q2,⟨q3,q4,q5⟩,q6,q7,q8⟩:=app_facts HH.out K5.out hpW hWs hvn hgrow hloc;have hS2:SW p sh.fb vb (pad xs) W2:=HS.out.same q7 q8;refine hK _ _ hS2 (fun hHeld=>?_);simp only[sZa,sZb,sZc];refine one_call (i:=17) (w0:=W2) 73 53 #[.map (some sh.fb),.int .u64 a,.int .i64 n,fsV x'] (by kernel_rfl) rfl rfl (by rfl) (by kernel_rfl) ?_;refine(putF_any sh.fb sh.F a n x' W2 (two_of_held HH.out K5.out q2)).mono ?_;rintro e W3 ⟨rfl,hput⟩;(have hvn2:vb∉sh.blocks:=fun hm=>hvn (.tail _ hm));refine⟨_,rfl,hS2.same (put_far hput (by omega) (List.nodup_cons.1 K5.out).1) (put_far hput (by omega) hvn2),fun _=>?_⟩;refine wpAnyH_done (by kernel_rfl) ?_ _;obtain⟨b1,b2,b3,b4,_,_,_,b8,b9,b10⟩:=HD2.out.bounds;obtain⟨fp',r1,r2,r3⟩:=disk_write HH.out K3.out K5.out HK.out b1 b2 b3 b4 hb5 hb6 hb7.out b8 b9 b10 q1 q2 q3 q4 q5 hxok hxv q6 hput;have hW0:=HO.out.size;go_wp2_with fail;go_ret;refine⟨by rw[hE.out];rfl,fp',by rw[hDD.out];exact r1,HO.out.trans r2 (fun x hx => .inl (by rw[K4.out];exact hx)),fun b hb=>?_⟩;rcases r3 b hb with hb|hb
     · exact .inl (by rw[K4.out];exact hb)
     · exact .inr (by omega)
   · simp only[sZa,sZb,sZc]
     refine one_value (i:=13) (v:=fsAt sh a n) 69 (by kernel_rfl) rfl rfl (by rfl) ?_ hSb (fun hHeld=>?_)
     · refine(exec_lookup _ (.tmp 67) (.tmp 68) false _ _ _ _ _ _ _).trans ?_
       exact congrArg (fun r=>Result.andThen r (fun v w'=>Result.ok (Next.value v) w')) (look_Fi hhb a n)
     simp only[sZa,sZb,sZc];obtain⟨hrow,hv64,hob⟩:=fs_row hhb a n;have hnl:(fget sh a n).length≤N:=by
      rw[K3.out.fresh];cases hfs:findS a n (stepD d).secs with
      |none=>simp
      |some s=>exact hb7.out s (findS_mem hfs)
     refine one_at (i:=16) 72 (by kernel_rfl) rfl rfl (by rfl) (fun K hK=>?_);refine wp_append_ver (.tmp 69) (.tmp 71) rfl (fsAt sh a n) (fget sh a n).length (flat (fget sh a n)) rfl hrow _ (pad xs) rfl (alloc_new W.drew _) hp64 (by omega) ?_;intro v' W2 hown hgrow hne hloc;obtain⟨x',rfl,hxv,hxok⟩:=fs_of_row hown hne hv64 hp64;obtain⟨q1,q2,⟨q3,q4,q5⟩,q6,q7,q8⟩:=app_facts HH.out K5.out hpW hWs hvn hgrow hloc;have hS2:SW p sh.fb vb (pad xs) W2:=HS.out.same q7 q8;refine hK _ _ hS2 (fun hHeld=>?_);simp only[sZa,sZb,sZc];refine one_call (i:=17) (w0:=W2) 73 53 #[.map (some sh.fb),.int .u64 a,.int .i64 n,fsV x'] (by kernel_rfl) rfl rfl (by rfl) (by kernel_rfl) ?_;refine(putF_any sh.fb sh.F a n x' W2 (two_of_held HH.out K5.out q2)).mono ?_;rintro e W3 ⟨rfl,hput⟩;(have hvn2:vb∉sh.blocks:=fun hm=>hvn (.tail _ hm));refine⟨_,rfl,hS2.same (put_far hput (by omega) (List.nodup_cons.1 K5.out).1) (put_far hput (by omega) hvn2),fun _=>?_⟩;refine wpAnyH_done (by kernel_rfl) ?_ _;obtain⟨b1,b2,b3,b4,_,_,_,b8,b9,b10⟩:=HD2.out.bounds;obtain⟨fp',r1,r2,r3⟩:=disk_write HH.out K3.out K5.out HK.out b1 b2 b3 b4 hb5 hb6 hb7.out b8 b9 b10 q1 q2 q3 q4 q5 hxok hxv q6 hput;have hW0:=HO.out.size;go_wp2_with fail;go_ret;refine⟨by rw[hE.out];rfl,fp',by rw[hDD.out];exact r1,HO.out.trans r2 (fun x hx => .inl (by rw[K4.out];exact hx)),fun b hb=>?_⟩;rcases r3 b hb with hb|hb
     · exact .inl (by rw[K4.out];exact hb)
     · exact .inr (by omega)
 · simp only[sZa,sZb,sZc]
   refine one_value (i:=11) (v:=atA a sh.F) 67 (by kernel_rfl) rfl rfl (by rfl) ?_ hSb (fun hHeld=>?_)
   · refine(exec_lookup _ (.tmp 65) (.tmp 66) false _ _ _ _ _ _ _).trans ?_
     exact congrArg (fun r=>Result.andThen r (fun v w'=>Result.ok (Next.value v) w')) (look_F hhb a)
   simp only[sZa,sZb,sZc];refine one_value (i:=13) (v:=fsAt sh a n) 69 (by kernel_rfl) rfl rfl (by rfl) ?_ hSb (fun hHeld=>?_)
   · refine(exec_lookup _ (.tmp 67) (.tmp 68) false _ _ _ _ _ _ _).trans ?_
     exact congrArg (fun r=>Result.andThen r (fun v w'=>Result.ok (Next.value v) w')) (look_Fi hhb a n)
   simp only[sZa,sZb,sZc];obtain⟨hrow,hv64,hob⟩:=fs_row hhb a n;have hnl:(fget sh a n).length≤N:=by
    rw[K3.out.fresh];cases hfs:findS a n (stepD d).secs with
    |none=>simp
    |some s=>exact hb7.out s (findS_mem hfs)
   refine one_at (i:=16) 72 (by kernel_rfl) rfl rfl (by rfl) (fun K hK=>?_);refine wp_append_ver (.tmp 69) (.tmp 71) rfl (fsAt sh a n) (fget sh a n).length (flat (fget sh a n)) rfl hrow _ (pad xs) rfl (alloc_new W.drew _) hp64 (by omega) ?_;intro v' W2 hown hgrow hne hloc;obtain⟨x',rfl,hxv,hxok⟩:=fs_of_row hown hne hv64 hp64;obtain⟨q1,q2,⟨q3,q4,q5⟩,q6,q7,q8⟩:=app_facts HH.out K5.out hpW hWs hvn hgrow hloc;have hS2:SW p sh.fb vb (pad xs) W2:=HS.out.same q7 q8;refine hK _ _ hS2 (fun hHeld=>?_);simp only[sZa,sZb,sZc];refine one_call (i:=17) (w0:=W2) 73 53 #[.map (some sh.fb),.int .u64 a,.int .i64 n,fsV x'] (by kernel_rfl) rfl rfl (by rfl) (by kernel_rfl) ?_;refine(putF_any sh.fb sh.F a n x' W2 (two_of_held HH.out K5.out q2)).mono ?_;rintro e W3 ⟨rfl,hput⟩;(have hvn2:vb∉sh.blocks:=fun hm=>hvn (.tail _ hm));refine⟨_,rfl,hS2.same (put_far hput (by omega) (List.nodup_cons.1 K5.out).1) (put_far hput (by omega) hvn2),fun _=>?_⟩;refine wpAnyH_done (by kernel_rfl) ?_ _;obtain⟨b1,b2,b3,b4,_,_,_,b8,b9,b10⟩:=HD2.out.bounds;obtain⟨fp',r1,r2,r3⟩:=disk_write HH.out K3.out K5.out HK.out b1 b2 b3 b4 hb5 hb6 hb7.out b8 b9 b10 q1 q2 q3 q4 q5 hxok hxv q6 hput;have hW0:=HO.out.size;go_wp2_with fail;go_ret;refine⟨by rw[hE.out];rfl,fp',by rw[hDD.out];exact r1,HO.out.trans r2 (fun x hx => .inl (by rw[K4.out];exact hx)),fun b hb=>?_⟩;rcases r3 b hb with hb|hb
   · exact .inl (by rw[K4.out];exact hb)
   · exact .inr (by omega)
theorem Write_any(N:Nat)(p:Nat)(d:DS)(fp:List Nat)(a n:Int)(y:Value)(xs:List Nat)(w:World)(h:DiskAt N w p d fp)(hr:RowX fp w y xs)(hl:xs.length≤9223372036854775807)(hN:N<1099511627776):
 Calls Tryz.prog 25 #[.pointer (some ⟨p,0,none⟩),.int .u64 a,.int .i64 n,y] w (WriteSays N p d fp a n xs w):=by
 cases hd:d.dead with
 |true=>exact Write_dead N p d fp a n y xs w h hd
 |false=>
  by_cases hf:formBad n xs
  · exact Write_form N p d fp a n y xs w h hr hd hf hl
  · have hf':¬(n<0∨65536≤n∨64<xs.length):=hf
    cases ht:(findS a n d.secs).isSome with
    |true=>exact Write_there N p d fp a n y xs w h hr hd (by omega) (by omega) (by omega) ht hN
    |false=>
     by_cases hm:d.room=d.secs.length
     · exact Write_full N p d fp a n y xs w h hr hd (by omega) (by omega) (by omega) ⟨ht,hm⟩ hN
     · exact Write_new N p d fp a n y xs w h hr hd (by omega) (by omega) (by omega) ht hm hN
end Go.Proofs.YthecngkdmnadoaaGreat

namespace Go.Proofs.YthecngkdmnadoaaGreat
open Go.RowKit
set_option maxRecDepth 100000
attribute [local go_sem ↓] exec_alloc_ver exec_box_ver exec_load_ver exec_store_ver exec_copy_ver
attribute [local go_sem] verV_cells
set_option maxHeartbeats 4000000 in
theorem Read_any(N:Nat)(p:Nat)(d:DS)(fp:List Nat)(a n:Int)(w:World)(h:DiskAt N w p d fp)(hN:N<1152921504606846976):
 Calls Tryz.prog 115 #[.pointer (some ⟨p,0,none⟩),.int .u64 a,.int .i64 n] w fun e w'=>Below w.heap.size w w' ∧
  ((curOf d.secs a n=none∧e = .returned (.tuple #[.slice none 0 0,.bool false]))∨∃v b,curOf d.secs a n=some v∧v.length=64∧e = .returned (.tuple #[.slice (some ⟨b,0,none⟩) 64 64,.bool true])∧w.heap.size≤b∧w'.heap[b]?=some (.cells (verC v) 93 (0,0))):=by
 have HD:Hid (DiskAt N w p d fp):=h;have hc64:=h.cur_len a n;clear h;cases hc:curOf d.secs a n with
 |none=>
  have HC:Hid (curOf d.secs a n=none):=hc;rw[hc]at hc64;clear hc;go_enter Tryz.func115,Tryz.ntmps115;go_wp2_with fail;refine(last_is N p d fp a n w HD.out (by omega) false zver (by rw[HC.out];rfl) (by rw[HC.out];rfl)).mono ?_;rintro e w1 ⟨rfl,hb1⟩;have hst:=storeV_new w1 zver zver_len;have HB1:Hid (Below w.heap.size w w1):=hb1;clear hb1;go_wp2_with fail;go_ret2;exact⟨HB1.out.alloc HB1.out.size _,.inl ⟨trivial,rfl⟩⟩
 |some v=>
  have HC:Hid (curOf d.secs a n=some v):=hc;rw[hc]at hc64;have hv:v.length=64:=hc64;clear hc hc64;go_enter Tryz.func115,Tryz.ntmps115;go_wp2_with fail;refine(last_is N p d fp a n w HD.out (by omega) true v (by rw[HC.out];rfl) (by rw[HC.out];rfl)).mono ?_;rintro e w1 ⟨rfl,hb1⟩;have hst:=storeV_new w1 v hv;have HB1:Hid (Below w.heap.size w w1):=hb1;clear hb1;go_wp2_with fail;go_ret2;exact⟨HB1.out.alloc HB1.out.size _,.inr ⟨v,w1.heap.size,rfl,hv,rfl,HB1.out.size,alloc_new _ _⟩⟩
end Go.Proofs.YthecngkdmnadoaaGreat
