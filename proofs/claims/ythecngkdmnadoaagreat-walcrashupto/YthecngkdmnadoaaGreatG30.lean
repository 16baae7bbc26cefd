/- Texts that were written apart, joined. -/
import Derived.Test.YthecngkdmnadoaaGreatG28
import Derived.Test.YthecngkdmnadoaaGreatAppOne
namespace Go.Proofs.YthecngkdmnadoaaGreat
open Go.RowKit
set_option maxRecDepth 100000
theorem Bytes.rowX{B:Nat}{fp:List Nat}{w:World}{v:Value}{xs:List Nat}(h:Bytes B w v xs)(hf:∀k∈fp,k<B):RowX fp w v xs:=by
 refine⟨h.row,fun b off len cap e h0 hb=>?_⟩;obtain⟨_,⟨e1,_⟩|⟨g,cap,cur,e1,hg,_⟩⟩:=h
 · rw[e1]at e;cases e
 · rw[e1]at e
   simp only[Value.slice.injEq,Option.some.injEq,Addr.mk.injEq]at e;have:=hf b hb;omega
theorem RowX.same{fp:List Nat}{w w':World}{v:Value}{xs:List Nat}(h:RowX fp w v xs)(e:w'.heap=w.heap):RowX fp w' v xs:=by
 obtain⟨⟨ao,cap,h1,h2,h3,h4⟩,h5⟩:=h;refine⟨⟨ao,cap,h1,h2,h3,fun h0=>?_⟩,h5⟩;obtain⟨b,off,e1,e2,e3⟩:=h4 h0;exact⟨b,off,e1,by rw[e];exact e2,fun i hi=>by rw[←e3 i hi];simp[World.cell?,e]⟩
theorem logF_sub{b:Nat}{v:WV}{fp fp':List Nat}{m:Nat}(hs:∀k∈fp',k∈fp∨m≤k):∀k∈logF b v fp',k∈logF b v fp∨m≤k:=fun k hk=>by
 unfold logF at hk ⊢;simp only[List.mem_cons,List.mem_append]at hk ⊢;rcases hk with h1|h1|h1|h1
 · exact .inl (.inl h1)
 · exact .inl (.inr (.inl h1))
 · exact .inl (.inr (.inr (.inl h1)))
 · exact(hs k h1).imp (fun h => .inr (.inr (.inr h))) id
theorem WalAt.segment{w:World}{b:Nat}{n:WN}{v:WV}(h:WalAt w b n v)(A s:Nat)(ta:Option Addr)(tl tc:Nat):WalAt (((w.setCell ⟨b,5,none⟩ (.int .u64 (A:Int))).setCell ⟨b,6,none⟩ (.int .i64 (s:Int))).setCell ⟨b,7,none⟩ (.slice ta tl tc)) b { n with area:=A,sector:=s,tail:=tl } { v with ta:=ta,tc:=tc }:=by
 have h1:=set_cell h 5 (.int .u64 (A:Int));have h2:=set_cell h1 6 (.int .i64 (s:Int));have h3:=set_cell h2 7 (.slice ta tl tc);exact h3
theorem WalAt.place{w:World}{b:Nat}{n:WN}{v:WV}(h:WalAt w b n v)(pa:Option Addr)(pn pc:Nat):WalAt (w.setCell ⟨b,3,none⟩ (.slice pa pn pc)) b n { v with pa:=pa,pn:=pn,pc:=pc }:=set_cell h 3 (.slice pa pn pc)
theorem WalAt.nextn{w:World}{b:Nat}{n:WN}{v:WV}(h:WalAt w b n v)(m:Nat):WalAt (w.setCell ⟨b,4,none⟩ (.int .u64 (m:Int))) b { n with next:=m } v:=set_cell h 4 (.int .u64 (m:Int))
theorem WalAt.drift{w:World}{b:Nat}{n:WN}{v:WV}(h:WalAt w b n v)(q:Bool):WalAt (w.setCell ⟨b,8,none⟩ (.bool q)) b { n with adrift:=q } v:=set_cell h 8 (.bool q)
theorem begin_made{N M M':Nat}{w w6 w12:World}{b:Nat}{g g':LG}{v:WV}{fp fp6:List Nat}{s:List Sv}{ta a9:Option Addr}{tc kl c9:Nat}(hL:LogAt N w b g v fp s)(ho:Only (logF b v fp) w w6)(hs:∀k∈fp6,k∈fp∨w.heap.size≤k)(hd:DiskAt M w6 v.p g'.d fp6)
 (hr:SOwn 0 w6 (.slice v.ra g.L.length v.rc) s) (ht:RowX (b::(ownB v.ra++(ownB v.pa++fp6))) w6 (.slice ta g'.tl.length tc) g'.tl) (hb:b<w6.heap.size) (hbf:b∉fp6) (hpa:∀k∈ownB v.pa,k∉fp6∧k≠b) (hra:∀k∈ownB v.ra,k∉fp6∧k≠b∧k∉ownB v.pa)
 (h12:Only (b::ownB v.pa) w6 w12) (hw:WalAt w12 b g'.n { v with pa:=a9,pn:=kl,pc:=c9,ta:=ta,tc:=tc }) (hq:QOwn 0 w12 (.slice a9 kl c9) g'.l) (ha:∀k∈ownB a9,k∈ownB v.pa∨w6.heap.size≤k) (eL:g'.L=g.L) (hm:M≤M'):
 LogAt M' w12 b g' { v with pa:=a9,pn:=kl,pc:=c9,ta:=ta,tc:=tc } fp6 s∧Only (logF b v fp) w w12∧∀k∈logF b { v with pa:=a9,pn:=kl,pc:=c9,ta:=ta,tc:=tc } fp6,k∈logF b v fp∨w.heap.size≤k:=by
 have hsub:∀k∈logF b { v with pa:=a9,pn:=kl,pc:=c9,ta:=ta,tc:=tc } fp6,k∈logF b v fp∨w.heap.size≤k:=fun k hk=>by
  unfold logF at hk ⊢;simp only[List.mem_cons,List.mem_append]at hk ⊢;rcases hk with h1|h1|h1|h1
  · exact .inl (.inl h1)
  · exact .inl (.inr (.inl h1))
  · rcases ha k h1 with h2|h2
    · exact .inl (.inr (.inr (.inl h2)))
    · have:=ho.size;exact .inr (by omega)
  · exact(hs k h1).imp (fun h => .inr (.inr (.inr h))) id
 have ho12:Only (logF b v fp) w w12:=ho.then h12 (fun k hk=>by
  simp only[List.mem_cons]at hk;rcases hk with h1|h1<;>simp[logF,h1])
 refine⟨⟨(hd.mono hm).apart h12 (fun k hk hm=>?_),hw,hq,?_,fun i x xs h1 h2=>?_,ht.step (h12.wider (fun k hk=>?_)) (fun k hk=>?_),hbf,fun k hk=>?_,fun k hk=>?_⟩,ho12,hsub⟩
 · simp only[List.mem_cons]at hm
   rcases hm with rfl|h1
   · exact hbf hk
   · exact(hpa k h1).1 hk
 · show SOwn 0 w12 (.slice v.ra g'.L.length v.rc) s
   rw[eL];refine hr.only h12 (fun k hk hm=>?_);simp only[List.mem_cons]at hm;rcases hm with rfl|h1
   · exact(hra k hk).2.1 rfl
   · exact(hra k hk).2.2 h1
 · rw[eL]at h2
   exact(hL.rows i x xs h1 h2).step ho12 hsub
 · simp only[List.mem_cons,List.mem_append]at hk ⊢
   rcases hk with h1|h1
   · exact .inl h1
   · exact .inr (.inr (.inl h1))
 · unfold logF at hk
   simp only[List.mem_cons,List.mem_append]at hk ⊢;rcases hk with h1|h1|h1|h1
   · exact .inl (.inl h1)
   · exact .inl (.inr (.inl h1))
   · rcases ha k h1 with h2|h2
     · exact .inl (.inr (.inr (.inl h2)))
     · exact .inr h2
   · exact .inl (.inr (.inr (.inr h1)))
 · rcases ha k hk with h2|h2
   · exact hpa k h2
   · exact⟨fun hm=>by have:=hd.lt k hm;omega,fun e=>by omega⟩
 · refine⟨(hra k hk).1,(hra k hk).2.1,fun hm=>?_⟩
   rcases ha k hm with h2|h2
   · exact(hra k hk).2.2 h2
   · have:=hr.lt k hk;omega
set_option maxHeartbeats 2000000 in
theorem begin_any(N b ix:Nat)(g:LG)(v:WV)(fp:List Nat)(s:List Sv)(x:List Nat)(xv:Value)(w:World)(h:LogAt N w b g v fp s)(hx:Row w.heap.size w xv x)
 (hN:N<137438953472) (hix:ix<18446744073709551616) (hxl:x.length<4096) (hnx:g.next≤1152921504606846976) (hl:∀y∈g.l,y.1≤1152921504606846976) (hkn:g.l.length<137438953472):
 Calls Tryz.prog 49 #[.pointer (some ⟨b,0,none⟩),.int .u64 (ix:Int),xv] w (LogSays (N+x.length+g.l.length+16) b (beginG g ix x) v fp w):=by
 have HL:Hid (LogAt N w b g v fp s):=h;have HR:Hid (Row w.heap.size w xv x):=hx;obtain⟨c0,c1,c2,c3,c4,c5,c6,c7,c8,c9,hz⟩:=h.wal.cells;have e4:g.n.next=g.next:=rfl
 have e5:g.n.area=g.area:=rfl;rw[e4]at c4;rw[e5]at c5;clear c1 c2 c6 c7 c8 c9 h hx e4 e5;by_cases h1:g.next=1152921504606846976
 · have h1z:((g.next:Int)==1152921504606846976)=true:=by simp;omega
   have HG:Hid (beginG g ix x=(51,g)):=if_pos h1;clear h1;go_enter Tryz.func49,Tryz.ntmps49;go_wp2_with fail;go_ret;rw[HG.out];exact⟨rfl,v,fp,s,HL.out.more (by omega),rfl,Only.refl _ _,fun k hk => .inl hk⟩
 · have h1z:((g.next:Int)==1152921504606846976)=false:=by simp;omega
   have HN:Hid (¬g.next=1152921504606846976):=h1;clear h1;obtain⟨A,hA⟩:∃A:Nat,4*g.next+1=A:=⟨_,rfl⟩
   have HAR:Hid (∀W,Calls Tryz.prog 38 #[.int .u64 (g.next:Int)] W fun e w'=>e = .returned (.int .u64 (A:Int))∧w'=W):=fun W=>hA▸areaOf_any g.next W hnx
   have HA:Hid (4*g.next+1=A):=hA;clear hA;obtain⟨V1,hV1⟩:∃V1,w.alloc (Obj.cells #[.int .u64 (A:Int),.int .i64 0,.slice none 0 0] 79)=V1:=⟨_,rfl⟩;have hB1:Below w.heap.size w V1:=hV1▸(Below.refl _ w).alloc (Nat.le_refl _) _;(have hz1:V1.heap.size=w.heap.size+1:=by rw[←hV1];simp);have hsg:SegAt V1 w.heap.size 0 #[.int .u64 (A:Int),.int .i64 0,.slice none 0 0] 79 A 0 (.slice none 0 0):=⟨by simp,by rw[←hV1];exact alloc_newQ w _⟩;have HP:Hid (Calls Tryz.prog 74 #[.slice none 0 0,.int .u64 (ix:Int)] V1 fun e w'=>∃v',e = .returned v'∧Bytes V1.heap.size w' v' (uw ix)∧Below V1.heap.size V1 w'):=by
    have:=PutUint_any V1.heap.size (.slice none 0 0) [] ix V1 (Bytes.nil _ _) (Nat.le_refl _) hix (by simp);simp only[List.nil_append]at this;exact this
   have H1:Hid (Below w.heap.size w V1∧V1.heap.size=w.heap.size+1∧SegAt V1 w.heap.size 0 #[.int .u64 (A:Int),.int .i64 0,.slice none 0 0] 79 A 0 (.slice none 0 0)):=⟨hB1,hz1,hsg⟩;have hu10:=uw_len10 hix;obtain⟨T,hT⟩:∃T,uw ix++x=T:=⟨_,rfl⟩;have HT:Hid (uw ix++x=T):=hT;(have hTl:T.length≤4106∧0<T.length:=by rw[←hT,List.length_append];omega);have HV1:Hid (w.alloc (Obj.cells #[.int .u64 (A:Int),.int .i64 0,.slice none 0 0] 79)=V1):=hV1;clear hB1 hz1 hsg hV1 hT;go_enter Tryz.func49,Tryz.ntmps49
   go_wp2_with (first
    |(go_at_call 38;refine(HAR.out _).mono ?_;rintro e w0 ⟨rfl,hw0⟩;subst w0)
    |(go_at_call 74;rw[HV1.out];refine HP.out.mono ?_;rintro e w1 ⟨v1,rfl,ho1,hb1⟩;have HO1:Hid (Bytes V1.heap.size w1 v1 (uw ix)∧Below V1.heap.size V1 w1):=⟨ho1,hb1⟩;clear ho1 hb1)
    |(at_builtin;refine append_row (by rfl) _ _ rfl V1.heap.size w.heap.size _ _ (uw ix) x rfl HO1.out.1 rfl (HR.out.below (H1.out.1.trans (HO1.out.2.mono H1.out.1.size))) (by omega) HO1.out.2.size ?_;intro v2 w2 hy2 hb2 _;obtain⟨a2,k2,rfl,_⟩:=hy2.row.shape;rw[HT.out]at hy2 ⊢;have H2:Hid (Bytes V1.heap.size w2 (.slice a2 T.length k2) T∧Below V1.heap.size V1 w2):=⟨hy2,HO1.out.2.trans hb2⟩;clear hy2 hb2 HO1 HP HV1;have HL2:Hid (LogAt N w2 b g v fp s∧Below w.heap.size w w2∧SegAt w2 w.heap.size 0 #[.int .u64 (A:Int),.int .i64 0,.slice none 0 0] 79 A 0 (.slice none 0 0)):=⟨HL.out.below (H1.out.1.trans (H2.out.2.mono H1.out.1.size)),H1.out.1.trans (H2.out.2.mono H1.out.1.size),H1.out.2.2.same (H2.out.2.block _ (by have:=H1.out.2.1;omega))⟩;obtain⟨c0,-,-,-,-,c5,-,-,-,-,-⟩:=HL2.out.1.wal.cells))
   obtain⟨fe,hfe⟩:∃fe,fitsE g.d 0 T.length=fe:=⟨_,rfl⟩;have HFE:Hid (fitsE g.d 0 T.length=fe):=hfe;have hfi:=fits_any N v.p w.heap.size 0 g.d fp none 0 0 T.length w2 HL2.out.1.disk HL2.out.2.2.cells.2.2.1 (by omega) (by omega);rw[hfe]at hfi;refine hfi.mono ?_;rintro e w3 ⟨rfl,k3,rfl⟩;clear hfe hfi c0 c3 c4 c5 hz;by_cases h0:fe=0
   · subst h0
     obtain⟨c0,c1,c2,c3,c4,c5,c6,c7,c8,c9,hz⟩:=HL2.out.1.wal.cells;(have hS3:∀k,S3 b v.p (g.area:Int) (w2.drewN k):=fun _=>⟨c0,c5⟩);clear c0 c1 c2 c3 c4 c5 c6 c7 c8 c9 hz;go_wp2_with fail;refine region_at (S:=S3 b v.p (g.area:Int)) 11 rfl (by kernel_rfl) (hS3 (k3+1)) (fun _=>?_);refine tq4 S3.facts 0 38 1 39 2 40 3 41 ?_;simp only[sZa,sZb,sZc];refine tq4 S3.facts 4 42 5 43 6 44 7 45 ?_;simp only[sZa,sZb,sZc];refine tq S3.facts 8 46 ?_;simp only[sZa,sZb,sZc];refine one_call (i:=9) (w0:=w2.drewN (k3+1)) 47 26 #[.pointer (some ⟨v.p,0,none⟩),.int .u64 (g.area:Int)] (by kernel_rfl) rfl rfl (by rfl) (by kernel_rfl) ?_;refine(Sync_any N v.p g.d fp (g.area:Int) (w2.drewN (k3+1)) (HL2.out.1.disk.same fun _ _=>rfl) (by omega)).mono ?_;rintro e w4 ⟨rfl,fp4,hD4,hO4,hn4⟩;(have hsbl:w.heap.size<w2.heap.size:=by have h1:=H1.out.2.1;have h2:=H2.out.2.size;omega);have hfw:∀k∈fp,k<w.heap.size:=HL.out.disk.lt;have hO4w:Only fp w w4:=((Only.of_below HL2.out.2.1).drewN (k3+1)).then hO4 (fun _ h=>h);(have hs4:∀k∈fp4,k∈fp∨w.heap.size≤k:=fun k hk=>(hn4 k hk).imp id (fun h=>by have h2:w2.heap.size≤k:=h;omega));have hsb4:w.heap.size∉fp4:=fun hm=>by
      rcases hn4 _ hm with h|h
      · have:=hfw _ h;omega
      · have h2:w2.heap.size≤w.heap.size:=h;omega
     have hrx:=(Bytes.rowX (fp:=fp) H2.out.1 (fun k hk=>by have:=hfw k hk;have:=H1.out.2.1;omega))
     have HS4:Hid (LogAt (N+1) w4 b { g with d:=syD g.d (g.area:Int) } v fp4 s∧Only fp w w4∧(∀k∈fp4,k∈fp∨w.heap.size≤k)∧SegAt w4 w.heap.size 0 #[.int .u64 (A:Int),.int .i64 0,.slice none 0 0] 79 A 0 (.slice none 0 0)∧w.heap.size∉fp4∧Row w4.heap.size w4 (.slice a2 T.length k2) T):=
      ⟨HL.out.turn hO4w hD4 hs4,hO4w,hs4,HL2.out.2.2.same (hO4.block w.heap.size hsbl (fun hm=>by have:=hfw _ hm;omega)),hsb4,((hrx.same (w':=w2.drewN (k3+1)) rfl).only hO4).1⟩
     have hS4:S3 b v.p (g.area:Int) w4:=by
      obtain⟨c0,c1,c2,c3,c4,c5,c6,c7,c8,c9,hz⟩:=HS4.out.1.wal.cells;exact⟨c0,c5⟩
     clear hD4 hO4 hn4 hsbl hfw hO4w hs4 hsb4 hrx;obtain⟨se,hse⟩:∃se,stepE g.d=se:=⟨_,rfl⟩;have HSE:Hid (stepE g.d=se):=hse;rw[hse];clear hse;refine⟨_,rfl,hS4,fun _=>?_⟩;simp only[sZa,sZb,sZc];refine one_value (i:=10) (v := .int .i64 se) (w':=w4) 10 (by kernel_rfl) rfl rfl (by rfl) (by kernel_rfl) hS4 (fun _=>?_);refine wpAnyH_done (by kernel_rfl) ?_ _;simp only[sZa,sZb,sZc];clear hS3 hS4;by_cases h0:se=0
     · subst h0
       obtain⟨R,hR⟩:∃R,layR (syD g.d (g.area:Int)) A 0 T=R:=⟨_,rfl⟩;have HRR:Hid (layR (syD g.d (g.area:Int)) A 0 T=R):=hR;have hla:=lay_any (N+1) v.p w.heap.size 0 #[.int .u64 (A:Int),.int .i64 0,.slice none 0 0] 79 A 0 (.slice none 0 0) (.slice a2 T.length k2) [] T (syD g.d (g.area:Int)) fp4 w4 HS4.out.1.disk HS4.out.2.2.2.1 HS4.out.2.2.2.2.1 (Bytes.nil 0 w4).row HS4.out.2.2.2.2.2 (by simp) (by omega) (by omega) (by simp;omega) (by omega);rw[List.nil_append,hR]at hla;have HLA:Hid (Calls Tryz.prog 76 #[.pointer (some ⟨w.heap.size,0,none⟩),.pointer (some ⟨v.p,0,none⟩),.slice a2 T.length k2] w4 fun e w'=>e = .returned (.int .i64 R.e)∧∃fp' tv',DiskAt (N+1+T.length+1) w' v.p R.d fp'∧SegAt w' w.heap.size 0 #[.int .u64 (A:Int),.int .i64 0,.slice none 0 0] 79 A R.sector tv'∧(R.tail=none→tv' = .slice none 0 0)∧(∀t,R.tail=some t→NewRow w4.heap.size (w.heap.size::fp') w' tv' t)∧Only (w.heap.size::fp4) w4 w'∧(∀k∈fp',k∈fp4∨w4.heap.size≤k)∧w.heap.size∉fp'):=hla;clear hla hR;obtain⟨c0,-,-,-,-,-,-,-,-,-,-⟩:=HS4.out.1.wal.cells;go_wp2_with fail;refine HLA.out.mono ?_;rintro e w5 ⟨rfl,fp5,tv5,hD5,hsg5,-,hnr5,hO5,hn5,hsb5⟩;have hO5w:Only fp w w5:=HS4.out.2.1.trans hO5 (fun k hk=>by
        rcases List.mem_cons.1 hk with rfl|h
        · exact .inr (Nat.le_refl _)
        · exact HS4.out.2.2.1 k h)
       have hs5:∀k∈fp5,k∈fp∨w.heap.size≤k:=fun k hk=>by
        rcases hn5 k hk with h|h
        · exact HS4.out.2.2.1 k h
        · have:=HS4.out.2.1.size;exact .inr (by omega)
       have HS5:Hid (LogAt (N+1+T.length+1) w5 b { g with d:=R.d } v fp5 s∧Only fp w w5∧(∀k∈fp5,k∈fp∨w.heap.size≤k)∧SegAt w5 w.heap.size 0 #[.int .u64 (A:Int),.int .i64 0,.slice none 0 0] 79 A R.sector tv5∧w.heap.size∉fp5∧(∀t,R.tail=some t→NewRow w4.heap.size (w.heap.size::fp5) w5 tv5 t)∧w.heap.size<w4.heap.size∧w4.heap.size≤w5.heap.size):=
        ⟨HL.out.turn hO5w hD5 hs5,hO5w,hs5,hsg5,hsb5,hnr5,HS4.out.2.2.2.1.lt,hO5.size⟩
       clear hD5 hsg5 hnr5 hO5 hn5 hsb5 hO5w hs5 HLA;obtain⟨le,hle⟩:∃le,R.e=le:=⟨_,rfl⟩;have HLE:Hid (R.e=le):=hle;rw[hle];clear hle;by_cases h0:le=0
       · subst h0
         obtain⟨rf,rd,hRF⟩:∃rf rd,ffR R.d (A:Int) ix g.l=(rf,rd):=⟨_,_,rfl⟩;have HRF:Hid (ffR R.d (A:Int) ix g.l=(rf,rd)):=hRF;have hff:=freeFrom_any 0 (N+1+T.length+1) b ix (A:Int) R.d fp5 g.n v g.l w5 HS5.out.1.disk HS5.out.1.wal (by omega) HS5.out.1.pl (by rw[HL.out.len.2];omega) HS5.out.1.bf HS5.out.1.paf hl;rw[hRF]at hff
         dsimp only at hff
         obtain⟨c0,c1,-,-,-,-,-,-,-,-,-⟩:=HS5.out.1.wal.cells;obtain⟨d0,d1,d2,dz⟩:=HS5.out.2.2.2.1.cells;clear hRF c1 d1 d2 dz;go_wp2_with fail;refine hff.mono ?_;rintro e w6 ⟨rfl,⟨fp6,hD6,hn6⟩,hO6,hc⟩;have hwl:=HL.out.lt;have hbw:=HL.out.wal.lt;have hpw:=QOwn.ltB HL.out.pl;have hO6w:Only (logF b v fp) w w6:=(HS5.out.2.1.wider (fun k hk=>by simp[logF,hk])).trans hO6 (fun k hk=>by
          simp only[List.mem_cons,List.mem_append]at hk;rcases hk with h1|h1|h1
          · exact .inl (by simp[logF,h1])
          · exact .inl (by simp[logF,h1])
          · exact(HS5.out.2.2.1 k h1).imp (fun h=>by simp[logF,h]) id)
         have hs6:∀k∈fp6,k∈fp∨w.heap.size≤k:=fun k hk=>by
          rcases hn6 k hk with h|h
          · exact HS5.out.2.2.1 k h
          · have:=HS5.out.2.1.size;exact .inr (by omega)
         have hsg6:SegAt w6 w.heap.size 0 #[.int .u64 (A:Int),.int .i64 0,.slice none 0 0] 79 A R.sector tv5:=HS5.out.2.2.2.1.same (hO6.block _ HS5.out.2.2.2.1.lt (fun hm=>by
          simp only[List.mem_cons,List.mem_append]at hm;rcases hm with h1|h1|h1
          · omega
          · have:=hpw _ h1;omega
          · exact HS5.out.2.2.2.2.1 h1))
         obtain⟨t5,ht5⟩:=layF_some A (T.length+1) (syD g.d (g.area:Int)) 0 T (by have h1:=HRR.out;unfold layR at h1;rw[h1];exact HLE.out);(have ht5:R.tail=some t5:=by have h1:=HRR.out;unfold layR at h1;rw[h1]at ht5;exact ht5);have hnr:=HS5.out.2.2.2.2.2.1 t5 ht5;have hsz5:w.heap.size<w4.heap.size∧w4.heap.size≤w5.heap.size:=HS5.out.2.2.2.2.2.2;have hr6:SOwn 0 w6 (.slice v.ra g.L.length v.rc) s:=HS5.out.1.recs.only hO6 (fun k hk hm=>by
          have h3:=HS5.out.1.raf k hk;simp only[List.mem_cons,List.mem_append]at hm;rcases hm with h1|h1|h1
          · exact h3.2.1 h1
          · exact h3.2.2 h1
          · exact h3.1 h1)
         have hbf6:b∉fp6:=fun hm=>by
          rcases hn6 b hm with h|h
          · exact HS5.out.1.bf h
          · have:=HS5.out.2.1.size;omega
         have hnf6:∀k,k<w.heap.size→k∉fp5→k∉fp6:=fun k hk hf hm=>by
          rcases hn6 k hm with h|h
          · exact hf h
          · have:=HS5.out.2.1.size;omega
         have hrw:=HL.out.recs.lt;by_cases h0:rf=0
         · subst h0
           obtain⟨-,hw6,hq6⟩|⟨hc0,-,-⟩:=hc
           rotate_left
           · exact absurd rfl hc0
           obtain⟨ta,tc,rfl,-⟩:=hnr.1.1.shape;have hrow6:RowX (b::(ownB v.ra++(ownB v.pa++fp6))) w6 (.slice ta t5.length tc) t5:=by
            have hX:RowX (b::(ownB v.ra++(ownB v.pa++fp5))) w5 (.slice ta t5.length tc) t5:=⟨hnr.1.1,fun bb off len cap e h0 hm=>by
             have h1:=hnr.2 bb off len cap e h0;have h2:=hnr.1.2 bb off len cap e h0;simp only[List.mem_cons,List.mem_append]at hm h2;rcases hm with h|h|h|h
             · omega
             · have:=hrw bb h;omega
             · have:=hpw bb h;omega
             · exact h2 (.inr h)⟩
            refine hX.step (hO6.wider (fun k hk=>?_)) (fun k hk=>?_)
            · simp only[List.mem_cons,List.mem_append]at hk ⊢
              rcases hk with h|h|h
              · exact .inl h
              · exact .inr (.inr (.inl h))
              · exact .inr (.inr (.inr h))
            · simp only[List.mem_cons,List.mem_append]at hk ⊢
              rcases hk with h|h|h|h
              · exact .inl (.inl h)
              · exact .inl (.inr (.inl h))
              · exact .inl (.inr (.inr (.inl h)))
              · exact(hn6 k h).imp (fun h => .inr (.inr (.inr h))) id
           have HS6:Hid (DiskAt (N+1+T.length+1+g.l.length+1) w6 v.p rd fp6∧WalAt w6 b g.n { v with pn:=(keepQ ix g.l).length }∧QOwn 0 w6 (.slice v.pa (keepQ ix g.l).length v.pc) (keepQ ix g.l)∧SOwn 0 w6 (.slice v.ra g.L.length v.rc) s∧RowX (b::(ownB v.ra++(ownB v.pa++fp6))) w6 (.slice ta t5.length tc) t5∧Only (logF b v fp) w w6∧(∀k∈fp6,k∈fp∨w.heap.size≤k)∧b∉fp6∧(∀k∈ownB v.pa,k∉fp6∧k≠b)∧(∀k∈ownB v.ra,k∉fp6∧k≠b∧k∉ownB v.pa)∧R.tail=some t5):=
            ⟨hD6,hw6,hq6,hr6,hrow6,hO6w,hs6,hbf6,fun k hk=>⟨hnf6 k (hpw k hk) (HS5.out.1.paf k hk).1,(HS5.out.1.paf k hk).2⟩,fun k hk=>⟨hnf6 k (hrw k hk) (HS5.out.1.raf k hk).1,(HS5.out.1.raf k hk).2⟩,ht5⟩
           clear hrow6;obtain⟨f0,f1,f2,fz⟩:=hsg6.cells;obtain⟨-,-,-,q3,q4,q5,q6,q7,-,-,qz⟩:=hw6.cells;clear hD6 hn6 hO6 hwl hbw hpw hO6w hs6 hsg6 ht5 hnr hsz5 hr6 hbf6 hnf6 hrw hw6 hq6;go_wp2_with fail;clear q3 q4 q5 q6 q7 qz f0 f1 f2 fz d0 c0 hff;obtain⟨w7,hw7⟩:∃w7,((w6.setCell ⟨b,5,none⟩ (.int .u64 (A:Int))).setCell ⟨b,6,none⟩ (.int .i64 (R.sector:Int))).setCell ⟨b,7,none⟩ (.slice ta t5.length tc)=w7:=⟨_,rfl⟩;rw[hw7];obtain⟨kl,hkl⟩:∃kl,(keepQ ix g.l).length=kl:=⟨_,rfl⟩;have HKL:Hid ((keepQ ix g.l).length=kl):=hkl;have HW7:Hid (WalAt w7 b { g.n with area:=A,sector:=R.sector,tail:=t5.length } { v with pn:=kl,ta:=ta,tc:=tc }∧QOwn 0 w7 (.slice v.pa kl v.pc) (keepQ ix g.l)∧Only (b::ownB v.pa) w6 w7):=by
            (have ho:Only [b] w6 w7:=by rw[←hw7];exact(((Only.refl [b] w6).setCell (by simp) _ _).setCell (by simp) _ _).setCell (by simp) _ _);refine⟨by rw[←hw7,←hkl];exact HS6.out.2.1.segment _ _ _ _ _,?_,ho.wider (fun k hk=>by simp[List.mem_singleton.1 hk])⟩;rw[←hkl];refine HS6.out.2.2.1.only ho (fun ad n c e k hk hm=>?_);simp only[Value.slice.injEq]at e;rw[←e.1]at hk;exact(HS6.out.2.2.2.2.2.2.2.2.1 k hk).2 (List.mem_singleton.1 hm)
           clear hw7 hkl;obtain⟨-,-,-,q3,q4,-,-,-,-,-,qz⟩:=HW7.out.1.cells;have hS7:∀W:World,W.heap=w7.heap→W.cell? ⟨b,3,none⟩=some (.slice v.pa kl v.pc)∧W.cell? ⟨b,4,none⟩=some (.int .u64 (g.next:Int)):=fun W e=>by
            have h3:w7.cell? ⟨b,3,none⟩=some (.slice v.pa kl v.pc):=q3;have h4:w7.cell? ⟨b,4,none⟩=some (.int .u64 (g.next:Int)):=q4;exact⟨by rw[←h3];simp[World.cell?,e],by rw[←h4];simp[World.cell?,e]⟩
           clear q3 q4 qz;refine region_atE (S:=fun W=>W.cell? ⟨b,3,none⟩=some (.slice v.pa kl v.pc)∧W.cell? ⟨b,4,none⟩=some (.int .u64 (g.next:Int))) 16 15 rfl (by kernel_rfl) ?_;have hS7d:=hS7 w7.drew rfl;refine te4 id 0 72 1 73 2 74 3 75 ?_;simp only[sZa,sZb,sZc];refine te4 id 4 76 5 77 6 78 7 79 ?_;simp only[sZa,sZb,sZc];refine te2 id 8 80 9 81 ?_;simp only[sZa,sZb,sZc];refine te id 10 82 ?_;simp only[sZa,sZb,sZc];obtain⟨w8,hw8⟩:∃w8,w7.drew.alloc (.cells #[.int .u64 (g.next:Int),.int .u64 (ix:Int)] 115)=w8:=⟨_,rfl⟩;(have hb8:Below w7.heap.size w7 w8:=by rw[←hw8];exact(Below.refl _ w7).drew.alloc (Nat.le_refl _) _);(have hx8:TwoQ w8 w7.heap.size 0 (g.next,ix):=by rw[←hw8];exact TwoQ.new w7.drew (g.next,ix) _);have hbl7:b<w7.heap.size:=HW7.out.1.lt;have hS8:w8.cell? ⟨b,3,none⟩=some (.slice v.pa kl v.pc)∧w8.cell? ⟨b,4,none⟩=some (.int .u64 (g.next:Int)):=by
            have h1:=hS7 w7 rfl;exact⟨(hb8.cell (p:=⟨b,3,none⟩) hbl7).trans h1.1,(hb8.cell (p:=⟨b,4,none⟩) hbl7).trans h1.2⟩
           have H8:Hid (Below w7.heap.size w7 w8∧TwoQ w8 w7.heap.size 0 (g.next,ix)∧QOwn 0 w8 (.slice v.pa kl v.pc) (keepQ ix g.l)∧WalAt w8 b { g.n with area:=A,sector:=R.sector,tail:=t5.length } { v with pn:=kl,ta:=ta,tc:=tc }):=⟨hb8,hx8,HW7.out.2.1.below hb8,HW7.out.1.below hbl7 hb8⟩;refine one_valueE (i:=11) (v := .slice (some ⟨w7.drew.heap.size,0,none⟩) 1 1) (w':=w8) 83 (by kernel_rfl) rfl rfl (by rfl) (by rw[←hw8];go_simp;first|done|exact rfl) hS8 ?_;simp only[sZa,sZb,sZc];clear hw8 hb8 hx8 hS7 hS7d hS8;(have hkll:(keepQ ix g.l).length<1099511627776:=by have:=keepQ_len ix g.l;omega);refine one_rowE (i:=12) 84 (by kernel_rfl) rfl rfl (by rfl) (exec_append_q1 (g.next,ix) w7.heap.size 1 _ _ rfl rfl rfl H8.out.2.2.1 H8.out.2.1 hkll) ?_;rintro a9 c9 w9 ⟨hq9,ho9,ha9⟩;have hw9:WalAt w9 b { g.n with area:=A,sector:=R.sector,tail:=t5.length } { v with pn:=kl,ta:=ta,tc:=tc }:=(ho9.block b H8.out.2.2.2.lt (fun hm=>(HS6.out.2.2.2.2.2.2.2.2.1 b hm).2 rfl)).trans H8.out.2.2.2;obtain⟨-,-,-,q3,q4,-,-,-,-,-,qz⟩:=hw9.cells;have q3:w9.cell? ⟨b,3,none⟩=some (.slice v.pa kl v.pc):=q3;have q4:w9.cell? ⟨b,4,none⟩=some (.int .u64 (g.next:Int)):=q4;refine⟨⟨q3,q4⟩,?_⟩;simp only[sZa,sZb,sZc];have H9:Hid (QOwn 0 w9 (.slice a9 ((keepQ ix g.l).length+1) c9) (keepQ ix g.l++[(g.next,ix)])∧Only (ownB v.pa) w8 w9∧(∀k∈ownB a9,k∈ownB v.pa∨w8.heap.size≤k)∧WalAt w9 b { g.n with area:=A,sector:=R.sector,tail:=t5.length } { v with pn:=kl,ta:=ta,tc:=tc }):=⟨hq9,ho9,ha9,hw9⟩;clear hq9 ho9 ha9 hw9;refine one_valueE (i:=13) (v := .pointer (some ⟨b,0,none⟩)) (w':=w9) 85 (by kernel_rfl) rfl rfl (by rfl) (by kernel_rfl) ⟨q3,q4⟩ ?_;simp only[sZa,sZb,sZc];refine one_valueE (i:=14) (v := .pointer (some ⟨b,3,none⟩)) (w':=w9) 86 (by kernel_rfl) rfl rfl (by rfl) (by kernel_rfl) ⟨q3,q4⟩ ?_;simp only[sZa,sZb,sZc];rw[HKL.out];have z3:=qz 3;refine last_skipE (w':=w9.setCell ⟨b,3,none⟩ (.slice a9 (kl+1) c9)) (by kernel_rfl) rfl rfl (by rfl) (by go_simp;first|done|rfl) (by kernel_rfl) ?_;obtain⟨w10,hw10⟩:∃w10,w9.setCell ⟨b,3,none⟩ (.slice a9 (kl+1) c9)=w10:=⟨_,rfl⟩;rw[hw10];have HW10:Hid (WalAt w10 b { g.n with area:=A,sector:=R.sector,tail:=t5.length } { v with pa:=a9,pn:=kl+1,pc:=c9,ta:=ta,tc:=tc }∧Only [b] w9 w10):=by
            rw[←hw10];exact⟨H9.out.2.2.2.place _ _ _,(Only.refl [b] w9).setCell (by simp) _ _⟩
           clear hw10 q3 q4 qz z3 hkll hbl7;obtain⟨-,-,-,-,q4,-,-,-,q8,-,qz⟩:=HW10.out.1.cells;have q4:w10.cell? ⟨b,4,none⟩=some (.int .u64 (g.next:Int)):=q4;have q8:w10.cell? ⟨b,8,none⟩=some (.bool g.adrift):=q8;have hnl:g.next<1152921504606846976:=by have:=HN.out;omega
           go_wp2_with fail;go_ret;have hg:beginG g ix x=(0,{ g with d:=rd,area:=A,sector:=R.sector,tl:=t5,l:=keepQ ix g.l++[(g.next,ix)],next:=g.next+1,adrift:=false }):=by
            unfold beginG;rw[if_neg HN.out,HT.out,HFE.out,if_neg (by simp),HSE.out,if_neg (by simp),HA.out,HRR.out,HLE.out,if_neg (by simp),HRF.out,if_neg (by simp),HS6.out.2.2.2.2.2.2.2.2.2.2];rfl
           rw[hg];have e1:IntKind.u64.wrap ((g.n.next:Int)+1)=((g.next+1:Nat):Int):=by
            show IntKind.u64.wrap ((g.next:Int)+1)=_;simp[IntKind.wrap,IntKind.bits,IntKind.signed];omega
           rw[e1];have hw11:=(HW10.out.1.nextn (g.next+1)).drift false;have ho11:Only [b] w10 ((w10.setCell ⟨b,4,none⟩ (.int .u64 ((g.next+1:Nat):Int))).setCell ⟨b,8,none⟩ (.bool false)):=((Only.refl [b] w10).setCell (by simp) _ _).setCell (by simp) _ _;obtain⟨w11,hw11e⟩:∃w11,(w10.setCell ⟨b,4,none⟩ (.int .u64 ((g.next+1:Nat):Int))).setCell ⟨b,8,none⟩ (.bool false)=w11:=⟨_,rfl⟩;rw[hw11e]at hw11 ho11 ⊢;have hob:Only [b] w9 w11:=HW10.out.2.then ho11 (fun _ h=>h);have ho8:Only (b::ownB v.pa) w6 w8:=HW7.out.2.2.then (Only.of_below (fp:=[]) H8.out.1) (by simp);have h12:Only (b::ownB v.pa) w6 w11:=(ho8.then H9.out.2.1 (fun k hk=>by simp[hk])).then hob (fun k hk=>by simp[List.mem_singleton.1 hk]);have hq11:QOwn 0 w11 (.slice a9 (kl+1) c9) (keepQ ix g.l++[(g.next,ix)]):=by
            have h1:=H9.out.1;rw[HKL.out]at h1;refine h1.only hob (fun ad n c e k hk hm=>?_);simp only[Value.slice.injEq]at e;rw[←e.1]at hk;rw[List.mem_singleton.1 hm]at hk;rcases H9.out.2.2.1 b hk with h|h
            · exact(HS6.out.2.2.2.2.2.2.2.2.1 b h).2 rfl
            · have h2:=H8.out.2.2.2.lt;omega
           have hm:=begin_made (M':=N+x.length+g.l.length+16) (g':={ g with d:=rd,area:=A,sector:=R.sector,tl:=t5,l:=keepQ ix g.l++[(g.next,ix)],next:=g.next+1,adrift:=false }) HL.out HS6.out.2.2.2.2.2.1 HS6.out.2.2.2.2.2.2.1 HS6.out.1 HS6.out.2.2.2.1 HS6.out.2.2.2.2.1 HS6.out.2.1.lt HS6.out.2.2.2.2.2.2.2.1 HS6.out.2.2.2.2.2.2.2.2.1 HS6.out.2.2.2.2.2.2.2.2.2.1 h12 hw11 hq11 (fun k hk=>by
            rcases H9.out.2.2.1 k hk with h|h
            · exact .inl h
            · have:=ho8.size;exact .inr (by omega)) rfl (by rw[←HT.out,List.length_append];omega)
           exact⟨rfl,_,fp6,s,hm.1,rfl,hm.2.1,hm.2.2⟩
         · obtain⟨hc0,-,-⟩|⟨-,hw6,hq6⟩:=hc
           · exact absurd hc0 h0
           (have h0b:(rf==0)=false:=by simpa using h0);have HNE:Hid (¬rf=0):=h0
           have HEND:Hid (LogAt (N+x.length+g.l.length+16) w6 b { g with d:=rd } v fp6 s∧Only (logF b v fp) w w6∧∀k∈logF b v fp6,k∈logF b v fp∨w.heap.size≤k):=
            ⟨⟨hD6.mono (by rw[←HT.out,List.length_append];omega),hw6,hq6,hr6,fun i y xs h1 h2=>(HL.out.rows i y xs h1 h2).step hO6w (logF_sub hs6),HL.out.tail.step hO6w (logF_sub hs6),hbf6,fun k hk=>⟨hnf6 k (hpw k hk) (HS5.out.1.paf k hk).1,(HS5.out.1.paf k hk).2⟩,fun k hk=>⟨hnf6 k (hrw k hk) (HS5.out.1.raf k hk).1,(HS5.out.1.raf k hk).2⟩⟩,hO6w,logF_sub hs6⟩
           clear h0 hD6 hn6 hO6 hwl hbw hpw hO6w hs6 hsg6 ht5 hnr hsz5 hr6 hbf6 hnf6 hrw hw6 hq6;go_wp2_with fail;go_ret;have hg:beginG g ix x=(rf,{ g with d:=rd }):=by
            unfold beginG;rw[if_neg HN.out,HT.out,HFE.out,if_neg (by simp),HSE.out,if_neg (by simp),HA.out,HRR.out,HLE.out,if_neg (by simp),HRF.out,if_pos HNE.out]
           rw[hg];exact⟨rfl,v,fp6,s,HEND.out.1,rfl,HEND.out.2.1,HEND.out.2.2⟩
       · have h0b:(le==0)=false:=by simpa using h0
         have HNE:Hid (¬le=0):=h0;clear h0;go_wp2_with fail;go_ret;have hg:beginG g ix x=(le,{ g with d:=R.d }):=by
          unfold beginG;rw[if_neg HN.out,HT.out,HFE.out,if_neg (by simp),HSE.out,if_neg (by simp),HA.out,HRR.out,HLE.out,if_pos HNE.out]
         rw[hg];exact⟨rfl,v,fp5,s,HS5.out.1.more (by rw[←HT.out,List.length_append];omega),rfl,HS5.out.2.1.wider (fun k hk=>by simp[logF,hk]),logF_sub HS5.out.2.2.1⟩
     · have h0b:(se==0)=false:=by simpa using h0
       have HNE:Hid (¬se=0):=h0;clear h0;go_wp2_with fail;go_ret;have hg:beginG g ix x=(se,{ g with d:=syD g.d (g.area:Int) }):=by
        unfold beginG;rw[if_neg HN.out,HT.out,HFE.out,if_neg (by simp),HSE.out,if_pos HNE.out]
       rw[hg];exact⟨rfl,v,fp4,s,HS4.out.1.more (by omega),rfl,HS4.out.2.1.wider (fun k hk=>by simp[logF,hk]),logF_sub HS4.out.2.2.1⟩
   · have h0b:(fe==0)=false:=by simpa using h0
     have HNE:Hid (¬fe=0):=h0;clear h0;go_wp2_with fail;go_ret;have hg:beginG g ix x=(fe,g):=by
      unfold beginG;rw[if_neg HN.out,HT.out,HFE.out,if_pos HNE.out]
     rw[hg];exact⟨rfl,v,fp,s,(HL2.out.1.below (belowN (Below.refl _ _) _)).more (by omega),rfl,(Only.of_below HL2.out.2.1).drewN _,fun k hk => .inl hk⟩
end Go.Proofs.YthecngkdmnadoaaGreat

namespace Go.Proofs.YthecngkdmnadoaaGreat
open Go.RowKit
set_option maxRecDepth 100000
theorem LaidW.log{N M b:Nat}{R:LayR}{w w':World}{g:LG}{v:WV}{fp:List Nat}{s:List Sv}(h:LogAt N w b g v fp s)(hl:LaidW M b R fp g.n v w w'):
 ∃v' fp',LogAt M w' b { g with d:=R.d,sector:=R.sector,tl:=R.tail.getD g.tl } v' fp' s∧v'.p=v.p∧Only (logF b v fp) w w'∧∀k∈logF b v' fp',k∈logF b v fp∨w.heap.size≤k:=by
 obtain⟨fp',tv',hd,hsg,hno,hso,ho,hs,hb⟩:=hl;have hoF:Only (logF b v fp) w w':=ho.wider (fun k hk=>by
  simp only[List.mem_cons]at hk;rcases hk with h|h<;>simp[logF,h])
 have hbl:=h.wal.lt;have hpl:=QOwn.ltB h.pl;have hrl:=h.recs.lt;obtain⟨ta,tc,rfl,htl⟩:∃ta tc,tv' = .slice ta (R.tail.getD g.tl).length tc∧RowX (b::(ownB v.ra++(ownB v.pa++fp'))) w' (.slice ta (R.tail.getD g.tl).length tc) (R.tail.getD g.tl):=by
  cases hR:R.tail with
  |none=>
   refine⟨v.ta,v.tc,hno hR,?_⟩;refine h.tail.step hoF (logF_sub (b:=b) (v:=v) hs)
  |some t=>
   have hn:=hso t hR;obtain⟨ta,tc,rfl,_⟩:=hn.1.1.shape;refine⟨ta,tc,rfl,hn.1.1,fun bb off len cap e h0 hm=>?_⟩;have h1:=hn.2 bb off len cap e h0;have h2:=hn.1.2 bb off len cap e h0;simp only[List.mem_cons,List.mem_append]at hm h2;rcases hm with h|h|h|h
   · exact h2 (.inl h)
   · have:=hrl bb h;omega
   · have:=hpl bb h;omega
   · exact h2 (.inr h)
 refine⟨{ v with ta:=ta,tc:=tc },fp',⟨hd,hsg.wal,h.pl.only ho (fun ad n c e=>?_),h.recs.only ho (fun k hk hm=>?_),fun i x xs h1 h2=>(h.rows i x xs h1 h2).step hoF (logF_sub (b:=b) (v:=v) hs),htl,hb,fun k hk=>⟨fun hm=>?_,(h.paf k hk).2⟩,fun k hk=>⟨fun hm=>?_,(h.raf k hk).2⟩⟩,rfl,hoF,logF_sub (b:=b) (v:=v) hs⟩
 · simp only[Value.slice.injEq]at e
   rw[←e.1];intro k hk hm;simp only[List.mem_cons]at hm;rcases hm with h1|h1
   · exact(h.paf k hk).2 h1
   · exact(h.paf k hk).1 h1
 · simp only[List.mem_cons]at hm
   rcases hm with h1|h1
   · exact(h.raf k hk).2.1 h1
   · exact(h.raf k hk).1 h1
 · rcases hs k hm with h1|h1
   · exact(h.paf k hk).1 h1
   · have:=hpl k hk;omega
 · rcases hs k hm with h1|h1
   · exact(h.raf k hk).1 h1
   · have:=hrl k hk;omega
structure LOk(g:LG):Prop where
 next:g.next≤1152921504606846976
 pl:∀y∈g.l,y.1≤1152921504606846976
 many:g.l.length<137438953472
 tl:g.tl.length<1024
 sec:g.sector≤1099511627776
 recs:g.L.length≤137438953472
 last:g.first≤4611686018427387904
set_option maxHeartbeats 2000000 in
theorem ext_any(N b:Nat)(g:LG)(v:WV)(fp:List Nat)(s:List Sv)(x:List Nat)(xv:Value)(w:World)(h:LogAt N w b g v fp s)(hx:Row w.heap.size w xv x)(hok:LOk g)
 (hN:N<137438953472) (hxl:x.length<2048):
 Calls Tryz.prog 56 #[.pointer (some ⟨b,0,none⟩),xv] w (LogSays (N+x.length+g.tl.length+g.l.length+16) b (extG g x) v fp w):=by
 obtain⟨xa,xc,rfl,_⟩:=hx.shape;cases hwn:wantsN g.sector g.tl.length with
 |false=>
  refine(extend_more N b g.d fp g.n v g.tl x xa xc w h.disk h.wal h.bf h.tail.1 hx hok.tl (by omega) (by omega) hok.sec rfl hwn).mono ?_;have e:extG g x=if ¬fitsE g.d g.tl.length x.length=0 then (fitsE g.d g.tl.length x.length,g)else ((layR g.d g.area g.sector (g.tl++x)).e,{ g with d:=(layR g.d g.area g.sector (g.tl++x)).d,sector:=(layR g.d g.area g.sector (g.tl++x)).sector,tl:=(layR g.d g.area g.sector (g.tl++x)).tail.getD g.tl }):=by
   unfold extG;rw[hwn];rfl
  rintro e2 w' (⟨h1,rfl,k,rfl⟩|⟨h1,rfl,h2⟩)
  · have h1:¬fitsE g.d g.tl.length x.length=0:=h1
    rw[e,if_pos h1];exact⟨rfl,v,fp,s,(h.below (belowN (Below.refl _ _) _)).more (by omega),rfl,(Only.refl _ _).drewN _,fun k hk => .inl hk⟩
  · have h1:fitsE g.d g.tl.length x.length=0:=h1
    rw[e,if_neg (by simp[h1])];obtain⟨v',fp',h3,h4,h5,h6⟩:=LaidW.log h h2;exact⟨rfl,v',fp',s,h3.more (by rw[List.length_append];omega),h4,h5,h6⟩
 |true=>
  have e:extG g x=beginG g (g.first+g.L.length) x:=by unfold extG;rw[hwn];rfl
  rw[e];obtain⟨m,hm⟩:∃m,g.first+g.L.length=m:=⟨_,rfl⟩;rw[hm];have h1:=hok.recs;have h2:=hok.last;have HWA:Hid (Calls Tryz.prog 78 #[.pointer (some ⟨b,5,none⟩)] w fun e w'=>e = .returned (.bool true)∧w'=w):=by
   have:=wants_any w b g.n v h.wal;have e2:wantsN g.n.sector g.n.tail=true:=hwn;rw[e2]at this;exact this
  have HE:Hid (Calls Tryz.prog 55 #[.pointer (some ⟨b,0,none⟩)] w fun e w'=>e = .returned (.int .u64 (m:Int))∧∃k,w'=w.drewN k):=by
   have:=wend_any w b g.n v h.wal (show g.first+g.L.length<_ by omega) (show g.L.length≤_ by omega);have e3:g.n.first+g.n.many=m:=hm;rw[e3]at this;exact this
  have HB:Hid (∀k,Calls Tryz.prog 49 #[.pointer (some ⟨b,0,none⟩),.int .u64 (m:Int),.slice xa x.length xc] (w.drewN k) (LogSays (N+x.length+g.l.length+16) b (beginG g m x) v fp (w.drewN k))):=fun k=>
   begin_any N b m g v fp s x _ (w.drewN k) (h.below (belowN (Below.refl _ _) _)) (by obtain⟨ao,cap,q1,q2,q3,q4⟩:=hx;exact⟨ao,cap,q1,q2,q3,q4⟩) hN (by omega) (by omega) hok.next hok.pl hok.many
  obtain⟨r,hr⟩:∃r,beginG g m x=r:=⟨_,rfl⟩;rw[hr]at HB ⊢;clear hx h hm e h1 h2 hok hr;go_enter Tryz.func56,Tryz.ntmps56;go_wp2_with (first|(go_at_call 78;refine HWA.out.mono ?_;rintro e w0 ⟨rfl,hw0⟩;subst w0)|(go_at_call 55;refine HE.out.mono ?_;rintro e w0 ⟨rfl,k0,rfl⟩)|(go_at_call 49;refine(HB.out _).mono ?_;rintro e w1 ⟨rfl,HS⟩;have HS2:Hid (∃v' fp' s',LogAt (N+x.length+g.l.length+16) w1 b r.2 v' fp' s'∧v'.p=v.p∧Only (logF b v fp) w w1∧∀k∈logF b v' fp',k∈logF b v fp∨w.heap.size≤k):=(by obtain⟨v',fp',s',a1,a2,a3,a4⟩:=HS;exact⟨v',fp',s',a1,a2,⟨a3.os,a3.tape,a3.output,a3.size,a3.block⟩,a4⟩);clear HS HB));go_ret;obtain⟨v',fp',s',a1,a2,a3,a4⟩:=HS2.out;exact⟨rfl,v',fp',s',a1.more (M:=N+x.length+g.tl.length+g.l.length+16) (by omega),a2,a3,a4⟩
end Go.Proofs.YthecngkdmnadoaaGreat
