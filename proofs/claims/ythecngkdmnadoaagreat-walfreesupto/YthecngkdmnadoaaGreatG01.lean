/- Texts that were written apart, joined. -/
import Derived.Test.YthecngkdmnadoaaGreatG00
namespace Go.Proofs.YthecngkdmnadoaaGreat
open Go.RowKit
set_option maxRecDepth 100000
def fault(p c:Nat):Nat:=if p=9∧1<c then 21 else if 0<p∧c=0 then 21 else 0
theorem byte_at{xs:List Nat}(hx:∀x∈xs,x<256)(k:Nat):xs.getD k 0<256:=by
 rw[List.getD_eq_getElem?_getD];cases h:xs[k]? with
 |none=>simp
 |some y=>exact hx y (List.mem_of_getElem? h)
theorem placeFault_any(p c:Nat)(w:World)(hp:p≤140737488355328)(hc:c<256):Calls Tryz.prog 130 #[.int .i64 (p:Int),bv c] w fun e w'=>e = .returned (.int .i64 (fault p c:Int))∧w'=w:=by
 by_cases h1:p=9
 · subst h1
   by_cases h2:1<c
   · have HF:Hid (fault 9 c=21):=by show fault 9 c=21;rw[fault,if_pos ⟨rfl,h2⟩]
     go_enter Tryz.func130,Tryz.ntmps130;go_wp2;go_ret;exact⟨by rw[HF.out];rfl,rfl⟩
   · by_cases h3:c=0
     · subst h3
       go_enter Tryz.func130,Tryz.ntmps130;go_wp2;go_ret;exact⟨rfl,rfl⟩
     · obtain rfl:c=1:=by omega
       go_enter Tryz.func130,Tryz.ntmps130;go_wp2;go_ret;exact⟨rfl,rfl⟩
 · have hb:((p:Int)==9)=false:=by simp;omega
   by_cases h2:0<p
   · by_cases h3:c=0
     · subst h3
       (have HF:Hid (fault p 0=21):=by show fault p 0=21;rw[fault,if_neg (by omega),if_pos ⟨h2,rfl⟩]);go_enter Tryz.func130,Tryz.ntmps130;go_wp2;go_ret;exact⟨by rw[HF.out];rfl,rfl⟩
     · have HF:Hid (fault p c=0):=by show fault p c=0;rw[fault,if_neg (by omega),if_neg (by omega)]
       (have hc0:((c:Int)==0)=false:=by simp;omega);go_enter Tryz.func130,Tryz.ntmps130;go_wp2;go_ret;exact⟨by rw[HF.out];rfl,rfl⟩
   · obtain rfl:p=0:=by omega
     (have HF:Hid (fault 0 c=0):=by show fault 0 c=0;rw[fault,if_neg (by omega),if_neg (by omega)]);go_enter Tryz.func130,Tryz.ntmps130;go_wp2;go_ret;exact⟨by rw[HF.out];rfl,rfl⟩
theorem num_fault{c:Nat}{r:List Nat}{i n:Nat}(h:fault i c≠0):num (c::r) i n=(0,0,21)∧fault i c=21:=by
 unfold fault at *;by_cases h1:i=9∧1<c
 · rw[if_pos h1]at *;exact⟨by rw[num,if_pos h1],rfl⟩
 · rw[if_neg h1]at *
   by_cases h2:0<i∧c=0
   · rw[if_pos h2]at *;exact⟨by rw[num,if_neg h1,if_pos h2],rfl⟩
   · rw[if_neg h2]at h;exact absurd rfl h
theorem num_well{c:Nat}{r:List Nat}{i n:Nat}(h:fault i c=0):num (c::r) i n=if c<128 then (n+c*128 ^ i,i+1,0)else num r (i+1) (n+(c-128)*128 ^ i):=by
 unfold fault at h;by_cases h1:i=9∧1<c
 · rw[if_pos h1]at h;omega
 · rw[if_neg h1]at h
   by_cases h2:0<i∧c=0
   · rw[if_pos h2]at h;omega
   · rw[num,if_neg h1,if_neg h2]
theorem wrapU{x:Int}(h0:0≤x)(h1:x<18446744073709551616):IntKind.u64.wrap x=x:=by
 simp[IntKind.wrap,IntKind.bits,IntKind.signed];omega
theorem num_next{i n c:Nat}(hi:i≤9)(hn:n<128 ^ i)(h9:i=9→c≤1):n+c%128*128 ^ i<18446744073709551616∧(i<9→n+c%128*128 ^ i<128 ^ (i+1))∧c%128*128 ^ i<18446744073709551616:=by
 by_cases e9:i=9
 · subst e9
   have hc:=h9 rfl;have:c%128*128 ^ 9≤1*128 ^ 9:=Nat.mul_le_mul_right _ (by omega);(have e:(128:Nat) ^ 9=9223372036854775808:=by decide);omega
 · have:(c%128+1)*128 ^ i≤128*128 ^ i:=Nat.mul_le_mul_right _ (by omega)
   rw[Nat.add_mul]at this;(have e:128*128 ^ i=128 ^ (i+1):=by rw[Nat.pow_succ,Nat.mul_comm]);have e2:(128:Nat) ^ (i+1)≤128 ^ 9:=Nat.pow_le_pow_right (by decide) (by omega);(have e3:(128:Nat) ^ 9=9223372036854775808:=by decide);omega
theorem pow7(i:Nat):(2:Nat) ^ (7*i)=128 ^ i:=by rw[Nat.pow_mul]
theorem or_next{i n c:Nat}(hi:i≤9)(hn:n<128 ^ i)(h9:i=9→c≤1):
 bits .or .u64 (n:Int) (IntKind.u64.wrap (((c:Int)%128)*2 ^ (7*i)))=((n+c%128*128 ^ i:Nat):Int):=by
 obtain⟨h1,_,h3⟩:=num_next hi hn h9;have e:((c:Int)%128)*2 ^ (7*i)=((c%128*128 ^ i:Nat):Int):=by rw[←pow7];push_cast;rfl
 rw[e,wrapU (by omega) (by omega),u64_or_nat _ _ (by omega) h3];congr 1;rw[←pow7]at *;rw[Nat.or_comm,Nat.mul_comm,←Nat.two_pow_add_eq_or_of_lt hn];omega
set_option maxHeartbeats 4000000 in
theorem frontUint_any(N:Nat)(v:Value)(xs:List Nat)(most:Nat)(w:World)(hrow:Row N w v xs)(hx:∀x∈xs,x<256)(hl:xs.length≤140737488355328):
 Calls Tryz.prog 116 #[v,.int .u64 (most:Int)] w fun e w'=>e = .returned (.tuple #[.int .u64 ((front xs most).1:Int),.int .i64 ((front xs most).2.1:Int),.int .i64 ((front xs most).2.2:Int)])∧w'=w:=by
 obtain⟨ao,cap,rfl,hcap,hno,hcells⟩:=hrow;have HC:Hid (0<xs.length→∃b off,ao=some ⟨b,off,none⟩∧b<N∧∀i,i<xs.length→w.cell? ⟨b,off+i,none⟩=some (bv (xs.getD i 0))):=hcells;have HX:Hid (∀x∈xs,x<256):=hx;clear hcells hno hx;go_enter Tryz.func116,Tryz.ntmps116;go_wp2
 go_loop [7,13] (fun vn vk=>∃k n:Nat,k≤xs.length∧k≤9∧vk = .int .i64 (k:Int)∧vn = .int .u64 (n:Int)∧n<128 ^ k∧num xs 0 0=num (xs.drop k) k n)
  (fun _ vk=>xs.length-(intOf vk).toNat)
 case atStart=>exact⟨0,0,Nat.zero_le _,by decide,rfl,rfl,by decide,rfl⟩
 case round=>
  obtain⟨k,n,hk,hk9,rfl,rfl,hn,heq⟩:=hrel;have HE:Hid (num xs 0 0=num (xs.drop k) k n):=heq;have HN:Hid (n<128 ^ k):=hn;clear heq;by_cases hlt:k<xs.length
  · obtain⟨b,off,rfl,_,hc⟩:=HC.out (by omega)
    have hck:=hc k hlt;have hb:=byte_at HX.out k;(have HD:Hid (xs.drop k=xs.getD k 0::xs.drop (k+1)):=by show _=_;rw[List.drop_eq_getElem_cons hlt];simp[List.getD_eq_getElem?_getD,List.getElem?_eq_getElem hlt]);clear hc;generalize xs.getD k 0=c at hck hb HD;by_cases hf:fault k c=0
    · have HF:Hid (fault k c=0):=hf
      have h9:k=9→c≤1:=by
       intro e;subst e;rcases Nat.lt_or_ge 1 c with h|h
       · rw[fault,if_pos ⟨rfl,h⟩]at hf;omega
       · exact h
      have hor:=or_next hk9 hn h9;have hnx:=num_next hk9 hn h9;have hW:=num_well (r:=xs.drop (k+1)) (n:=n) hf;rw[←HD.out]at hW;have HW:Hid (num (xs.drop k) k n=if c<128 then (n+c*128 ^ k,k+1,0)else num (xs.drop (k+1)) (k+1) (n+(c-128)*128 ^ k)):=hW;clear hW hf;by_cases h128:c<128
      · have hV:=HW.out
        rw[if_pos h128,←HE.out]at hV;rw[show c%128=c by omega]at hor hnx;have hor2:=hor;rw[show(c:Int)%128=(c:Int)by omega]at hor2;generalize hq:n+c*128 ^ k=q at *;have HV:Hid (num xs 0 0=(q,k+1,0)):=hV;have hq64:=hnx.1;clear hV hnx hn hq HW;by_cases hmost:most<q
        · have HFR:Hid (front xs most=(0,0,22)):=by show front xs most=_;unfold front;rw[HV.out,if_pos ⟨rfl,hmost⟩]
          go_wp2_with (go_at_call 130;refine(placeFault_any k c _ (by omega) hb).mono ?_;rintro e w' ⟨rfl,rfl⟩;rw[HF.out])
          go_ret3
          exact⟨by rw[HFR.out];rfl,rfl⟩
        · have HFR:Hid (front xs most=(q,k+1,0)):=by show front xs most=_;unfold front;rw[HV.out,if_neg (fun h=>hmost h.2)]
          go_wp2_with (go_at_call 130;refine(placeFault_any k c _ (by omega) hb).mono ?_;rintro e w' ⟨rfl,rfl⟩;rw[HF.out])
          go_ret3
          exact⟨by rw[HFR.out];rfl,rfl⟩
      · have hV:=HW.out
        rw[if_neg h128,←HE.out]at hV;have hk8:k<9:=by
         rcases Nat.lt_or_ge k 9 with h|h
         · exact h
         · have:=h9 (by omega);omega
        rw[show c%128=c-128 by omega]at hor hnx;have hlt2:=hnx.2.1 hk8;generalize hq:n+(c-128)*128 ^ k=q at *;have HV:Hid (num xs 0 0=num (xs.drop (k+1)) (k+1) q):=hV;have HL:Hid (q<128 ^ (k+1)):=hlt2;clear hV hnx hn hq HW hlt2;go_wp2_with (go_at_call 130;refine(placeFault_any k c _ (by omega) hb).mono ?_;rintro e w' ⟨rfl,rfl⟩;rw[HF.out])
        go_round
        (case rel=>exact⟨k+1,q,by omega,by omega,by go_num,by go_num,HL.out,HV.out⟩);case measure=>simp[intOf];omega
    · obtain⟨e1,e2⟩:=num_fault (r:=xs.drop (k+1)) (n:=n) hf
      rw[←HD.out,←HE.out]at e1;(have HFR:Hid (front xs most=(0,0,21)):=by show front xs most=_;unfold front;rw[e1,if_neg (fun h=>by simp at h)]);have HF:Hid (fault k c=21):=e2;clear e1 e2 hf;go_wp2_with (go_at_call 130;refine(placeFault_any k c _ (by omega) hb).mono ?_;rintro e w' ⟨rfl,rfl⟩;rw[HF.out])
      go_ret3
      exact⟨by rw[HFR.out];rfl,rfl⟩
  · obtain rfl:k=xs.length:=by omega
    have e1:=HE.out;rw[List.drop_length,num]at e1;(have HFR:Hid (front xs most=(0,0,20)):=by show front xs most=_;unfold front;rw[e1,if_neg (fun h=>by simp at h)]);clear e1;go_wp2
    go_ret3
    exact⟨by rw[HFR.out];rfl,rfl⟩
end Go.Proofs.YthecngkdmnadoaaGreat

namespace Go.Proofs.YthecngkdmnadoaaGreat
open Go.RowKit
set_option maxRecDepth 100000
def LowB(B:Nat)(v:Value)(xs:List Nat):Prop:=0<xs.length→∀g off n c,v = .slice (some ⟨g,off,none⟩) n c→B≤g
theorem low_at{B g:Nat}(h:B≤g)(off n c:Nat)(xs:List Nat):LowB B (.slice (some ⟨g,off,none⟩) n c) xs:=fun _ g' off' n' c' e=>by
 simp only[Value.slice.injEq,Option.some.injEq,Addr.mk.injEq]at e;omega
theorem Bytes.low{B:Nat}{w:World}{v:Value}{xs:List Nat}(h:Bytes B w v xs):LowB B v xs:=fun _ g off n c e=>by
 obtain⟨_,⟨e1,_⟩|⟨g2,cap,cur,e1,hg,_⟩⟩:=h
 · rw[e1]at e;cases e
 · rw[e1]at e
   simp only[Value.slice.injEq,Option.some.injEq,Addr.mk.injEq]at e;omega
def Rd(B:Nat)(w:World)(rb:Nat)(xs:List Nat)(e:Int):Prop:=
 ∃v,w.heap[rb]?=some (.cells #[v,.int .i64 e] 166 (0,0))∧Row rb w v xs∧(∀x∈xs,x<256)∧xs.length≤140737488355328∧LowB B v xs
theorem Rd.but{B:Nat}{w w':World}{rb:Nat}{xs:List Nat}{e:Int}(h:Rd B w rb xs e)(hb:Below w.heap.size w w'):Rd B w' rb xs e:=by
 obtain⟨v,h1,h2,h3⟩:=h;have hlt:=(Array.getElem?_eq_some_iff.1 h1).1;exact⟨v,(hb.block rb hlt).trans h1,h2.below (hb.mono (Nat.le_of_lt hlt)),h3⟩
theorem Rd.lower{B B':Nat}{w:World}{rb:Nat}{xs:List Nat}{e:Int}(h:Rd B w rb xs e)(hB:B'≤B):Rd B' w rb xs e:=by
 obtain⟨v,h1,h2,h3,h4,h5⟩:=h;exact⟨v,h1,h2,h3,h4,fun h0 g off n c e=>Nat.le_trans hB (h5 h0 g off n c e)⟩
theorem rd_cells{w:World}{rb:Nat}{v:Value}{e:Int}(h:w.heap[rb]?=some (.cells #[v,.int .i64 e] 166 (0,0))):
 w.cell? ⟨rb,0,none⟩=some v∧w.cell? ⟨rb,1,none⟩=some (.int .i64 e)∧w.frozen? ⟨rb,0,none⟩=false∧w.frozen? ⟨rb,1,none⟩=false:=by
 refine⟨?_,?_,?_,?_⟩<;>simp[World.cell?,World.frozen?,h]
theorem rd_set0{w:World}{rb:Nat}{v v':Value}{e:Int}(h:w.heap[rb]?=some (.cells #[v,.int .i64 e] 166 (0,0))):
 (w.setCell ⟨rb,0,none⟩ v').heap[rb]?=some (.cells #[v',.int .i64 e] 166 (0,0)):=by
 simp[World.setCell,Array.getElem?_modify,h]
theorem rd_set1{w:World}{rb:Nat}{v:Value}{e e':Int}(h:w.heap[rb]?=some (.cells #[v,.int .i64 e] 166 (0,0))):
 (w.setCell ⟨rb,1,none⟩ (.int .i64 e')).heap[rb]?=some (.cells #[v,.int .i64 e'] 166 (0,0)):=by
 simp[World.setCell,Array.getElem?_modify,h]
theorem row_set{N:Nat}{w:World}{rb o:Nat}{u v:Value}{xs:List Nat}(h:Row N w v xs)(hN:N≤rb):Row N (w.setCell ⟨rb,o,none⟩ u) v xs:=
 h.below ((Below.refl N w).setCell (p:=⟨rb,o,none⟩) hN u)
theorem row_drop{N:Nat}{w:World}{b off cap k:Nat}{xs:List Nat}(h:Row N w (.slice (some ⟨b,off,none⟩) xs.length cap) xs)(hk:k≤xs.length):
 Row N w (.slice (if cap=k then some ⟨b,off,none⟩else some ⟨b,off+k,none⟩) (xs.length-k) (cap-k)) (xs.drop k):=by
 obtain⟨ao,cap',e,hcap,hno,hc⟩:=h;simp only[Value.slice.injEq]at e;obtain⟨rfl,_,rfl⟩:=e;refine⟨_,cap-k,by rw[List.length_drop],by rw[List.length_drop];omega,(fun h=>by split at h<;>cases h),fun h0=>?_⟩;rw[List.length_drop]at h0;obtain⟨b',off',e,hN,hd⟩:=hc (by omega);simp only[Option.some.injEq,Addr.mk.injEq,and_true]at e;obtain⟨rfl,rfl⟩:=e;refine⟨b,off+k,by rw[if_neg (by omega)],hN,fun i hi=>?_⟩;rw[List.length_drop]at hi;rw[Nat.add_assoc,hd (k+i) (by omega)];simp[List.getD_eq_getElem?_getD]
theorem row_drop_eq{N:Nat}{w:World}{b off cap k:Nat}{xs:List Nat}(h:Row N w (.slice (some ⟨b,off,none⟩) xs.length cap) xs)(hk:k≤xs.length)(e:cap=k):
 Row N w (.slice (some ⟨b,off,none⟩) (xs.length-k) 0) (xs.drop k):=by
 have:=row_drop h hk;rw[if_pos e,show cap-k=0 by omega]at this;exact this
theorem row_drop_ne{N:Nat}{w:World}{b off cap k:Nat}{xs:List Nat}(h:Row N w (.slice (some ⟨b,off,none⟩) xs.length cap) xs)(hk:k≤xs.length)(e:cap≠k):
 Row N w (.slice (some ⟨b,off+k,none⟩) (xs.length-k) (cap-k)) (xs.drop k):=by
 have:=row_drop h hk;rw[if_neg e]at this;exact this
set_option maxHeartbeats 1000000 in
theorem Err_any{B:Nat}(rb:Nat)(xs:List Nat)(e:Int)(w:World)(h:Rd B w rb xs e):
 Calls Tryz.prog 87 #[.pointer (some ⟨rb,0,none⟩)] w fun x w'=>x = .returned (.int .i64 e)∧w'=w:=by
 obtain⟨v,h1,h2,h3,h4,h5⟩:=h;obtain⟨c0,c1,f0,f1⟩:=rd_cells h1;clear h1 h2 h3;go_enter Tryz.func87,Tryz.ntmps87;go_wp2;go_ret;exact⟨rfl,rfl⟩
def endE(n:Nat)(e:Int):Int:=if e=0∧0<n then 23 else e
def failE(e f:Int):Int:=if e=0 then f else e
set_option maxHeartbeats 1000000 in
theorem Fail_any{B:Nat}(rb:Nat)(xs:List Nat)(e f:Int)(w:World)(h:Rd B w rb xs e):
 Calls Tryz.prog 117 #[.pointer (some ⟨rb,0,none⟩),.int .i64 f] w fun x w'=>x = .returned (.tuple #[])∧Rd B w' rb xs (failE e f)∧But rb w w':=by
 obtain⟨v,h1,h2,h3,h4,h5⟩:=h;obtain⟨c0,c1,f0,f1⟩:=rd_cells h1;have HD:Hid (w.heap[rb]?=some (.cells #[v,.int .i64 e] 166 (0,0))∧Row rb w v xs∧(∀x∈xs,x<256)):=⟨h1,h2,h3⟩;clear h1 h2 h3;by_cases he:e=0
 · subst he
   go_enter Tryz.func117,Tryz.ntmps117;go_wp2
   go_end0
   exact⟨rfl,⟨v,rd_set1 HD.out.1,row_set HD.out.2.1 (Nat.le_refl _),HD.out.2.2,h4,h5⟩,(But.refl _ _).setCell 1 _⟩
 · have hb:(e==0)=false:=by simpa using he
   go_enter Tryz.func117,Tryz.ntmps117;go_wp2
   go_end0
   refine⟨rfl,?_,But.refl _ _⟩;rw[failE,if_neg he];exact⟨v,HD.out.1,HD.out.2.1,HD.out.2.2,h4,h5⟩
end Go.Proofs.YthecngkdmnadoaaGreat

namespace Go.Proofs.YthecngkdmnadoaaGreat
open Go.RowKit
set_option maxRecDepth 100000
def byteR(xs:List Nat)(e:Int):Nat×List Nat×Int:=if e≠0 then (0,xs,e)else (xs.headD 0,xs.tail,if xs.length=0 then 20 else 0)
def uintR(xs:List Nat)(e:Int)(most:Nat):Nat×List Nat×Int:=
 if e≠0 then (0,xs,e)else if (front xs most).2.2≠0 then (0,xs,((front xs most).2.2:Int))else ((front xs most).1,xs.drop (front xs most).2.1,0)
set_option maxHeartbeats 2000000 in
theorem Uint_any{B:Nat}(rb:Nat)(xs:List Nat)(e:Int)(most:Nat)(w:World)(h:Rd B w rb xs e):
 Calls Tryz.prog 86 #[.pointer (some ⟨rb,0,none⟩),.int .u64 (most:Int)] w fun x w'=>x = .returned (.int .u64 ((uintR xs e most).1:Int))∧Rd B w' rb (uintR xs e most).2.1 (uintR xs e most).2.2∧But rb w w':=by
 have HR:Hid (Rd B w rb xs e):=h;obtain⟨v,h1,h2,h3,h4,h5⟩:=h;obtain⟨c0,c1,f0,f1⟩:=rd_cells h1;have HD:Hid (w.heap[rb]?=some (.cells #[v,.int .i64 e] 166 (0,0))∧Row rb w v xs∧(∀x∈xs,x<256)):=⟨h1,h2,h3⟩;have hff:=front_facts xs most h3;have hcall:=frontUint_any rb v xs most w h2 h3 h4;clear h1 h3;by_cases he:e=0
 · subst he
   by_cases hz:(front xs most).2.2=0
   · have HU:Hid (uintR xs 0 most=((front xs most).1,xs.drop (front xs most).2.1,0)):=by show _=_;rw[uintR,if_neg (by simp),if_neg (by simp[hz])]
     obtain⟨g1,g2,g3,g4,g5,_⟩:=hff.1 hz;rw[hz]at hcall;generalize hf1:(front xs most).1=n at hcall HU g4 g5;generalize hf2:(front xs most).2.1=k at hcall HU g1 g2 g3;have HC:Hid (Calls Tryz.prog 116 #[v,.int .u64 (most:Int)] w fun e w'=>e = .returned (.tuple #[.int .u64 (n:Int),.int .i64 (k:Int),.int .i64 0])∧w'=w):=hcall;clear hff hcall hf1 hf2 hz;obtain⟨ao,cap,rfl,hcap,hno,hc⟩:=h2;obtain⟨b,off,rfl,hN,hd⟩:=hc (by omega);have hBb:B≤b:=h5 (by omega) _ _ _ _ rfl;have HWA:Hid (cap=k→Row rb w (.slice (some ⟨b,off,none⟩) (xs.length-k) 0) (xs.drop k)):=row_drop_eq HD.out.2.1 g2;have HWB:Hid (cap≠k→Row rb w (.slice (some ⟨b,off+k,none⟩) (xs.length-k) (cap-k)) (xs.drop k)):=row_drop_ne HD.out.2.1 g2;(have hkc:k≤cap:=by omega);clear hc hd hno;go_enter Tryz.func86,Tryz.ntmps86;go_wp2_with (go_at_call 116;refine HC.out.mono ?_;rintro x w' ⟨rfl,rfl⟩)
     all_goals
      go_ret;rw[HU.out];exact⟨rfl,⟨_,rd_set0 HD.out.1,row_set (by first|exact HWA.out (by omega)|exact HWB.out (by omega)) (Nat.le_refl _),fun x hx=>HD.out.2.2 x (List.mem_of_mem_drop (show x∈xs.drop k from hx)),by show(xs.drop k).length≤_;rw[List.length_drop];omega,low_at hBb _ _ _ _⟩,(But.refl _ _).setCell 0 _⟩
   · have HU:Hid (uintR xs 0 most=(0,xs,((front xs most).2.2:Int))):=by show _=_;rw[uintR,if_neg (by simp),if_pos hz]
     obtain⟨g1,g2,g3⟩:=hff.2 hz;rw[g1,g2]at hcall;generalize hf3:(front xs most).2.2=f at hcall HU hz g3;have HC:Hid (Calls Tryz.prog 116 #[v,.int .u64 (most:Int)] w fun e w'=>e = .returned (.tuple #[.int .u64 0,.int .i64 0,.int .i64 (f:Int)])∧w'=w):=hcall;(have hb:((f:Int)==0)=false:=by simpa using hz);clear hff hcall hf3 hz g1 g2;go_enter Tryz.func86,Tryz.ntmps86
     go_wp2_with (first
      |(go_at_call 116;refine HC.out.mono ?_;rintro x w' ⟨rfl,rfl⟩)
      |(go_at_call 117;refine(Fail_any rb xs 0 (f:Int) _ HR.out).mono ?_;rintro x w' ⟨rfl,hrd,hbut⟩))
     go_ret;rw[HU.out];exact⟨rfl,hrd,hbut⟩
 · have hb:(e==0)=false:=by simpa using he
   (have HB:Hid (uintR xs e most=(0,xs,e)):=by show _=_;rw[uintR,if_pos he]);clear hff hcall;go_enter Tryz.func86,Tryz.ntmps86;go_wp2;go_ret;rw[HB.out];exact⟨rfl,HR.out,But.refl _ _⟩
end Go.Proofs.YthecngkdmnadoaaGreat

namespace Go.Proofs.YthecngkdmnadoaaGreat
open Go.RowKit
set_option maxRecDepth 100000
theorem row_take{N:Nat}{w:World}{ao:Option Addr}{len cap n:Nat}{xs:List Nat}(h:Row N w (.slice ao len cap) xs)(hn:n≤xs.length):Row N w (.slice ao n cap) (xs.take n):=by
 obtain⟨ao',cap',e,hcap,hno,hc⟩:=h;simp only[Value.slice.injEq]at e;obtain⟨rfl,rfl,rfl⟩:=e;have hl:(xs.take n).length=n:=by rw[List.length_take];omega
 refine⟨_,_,by rw[hl],by rw[hl];omega,hno,fun h0=>?_⟩;rw[hl]at h0;obtain⟨b,off,e,hN,hd⟩:=hc (by omega);refine⟨b,off,e,hN,fun i hi=>?_⟩;rw[hl]at hi;rw[hd i (by omega)];simp[List.getD_eq_getElem?_getD,hi]
def mostN(m:Int):Nat:=(max m 0).toNat
def bytesR(xs:List Nat)(e:Int)(m:Int):List Nat×List Nat×Int:=
 if e≠0 then ([],xs,e)
 else if (front xs (mostN m)).2.2≠0 then ([],xs,((front xs (mostN m)).2.2:Int))
 else if xs.length-(front xs (mostN m)).2.1<(front xs (mostN m)).1 then ([],xs,20)
 else ((xs.drop (front xs (mostN m)).2.1).take (front xs (mostN m)).1,xs.drop ((front xs (mostN m)).2.1+(front xs (mostN m)).1),0)
set_option maxHeartbeats 4000000 in
theorem Bytes_any{B:Nat}(rb:Nat)(xs:List Nat)(e:Int)(m:Int)(w:World)(h:Rd B w rb xs e)(hm : -9223372036854775808≤m)(hm2:m≤9223372036854775807):
 Calls Tryz.prog 89 #[.pointer (some ⟨rb,0,none⟩),.int .i64 m] w fun x w'=>∃v,x = .returned v∧Bytes w.heap.size w' v (bytesR xs e m).1∧Rd B w' rb (bytesR xs e m).2.1 (bytesR xs e m).2.2∧But rb w w':=by
 have HR:Hid (Rd B w rb xs e):=h;obtain⟨v,h1,h2,h3,h4,h5⟩:=h;obtain⟨c0,c1,f0,f1⟩:=rd_cells h1;have HD:Hid (w.heap[rb]?=some (.cells #[v,.int .i64 e] 166 (0,0))∧Row rb w v xs∧(∀x∈xs,x<256)):=⟨h1,h2,h3⟩;have hff:=front_facts xs (mostN m) h3;have hcall:=frontUint_any rb v xs (mostN m) w h2 h3 h4;have hlt:=(Array.getElem?_eq_some_iff.1 h1).1;have hcase:(m<0∧((mostN m:Nat):Int)=0)∨(0≤m∧((mostN m:Nat):Int)=m):=by unfold mostN;omega
 have hmn:mostN m<9223372036854775808:=by unfold mostN;omega
 clear h1 h3;by_cases he:e=0
 · subst he
   by_cases hz:(front xs (mostN m)).2.2=0
   · obtain⟨g1,g2,g3,g4,g5,_⟩:=hff.1 hz
     have HU:Hid (bytesR xs 0 m=if xs.length-(front xs (mostN m)).2.1<(front xs (mostN m)).1 then ([],xs,20)
      else ((xs.drop (front xs (mostN m)).2.1).take (front xs (mostN m)).1,xs.drop ((front xs (mostN m)).2.1+(front xs (mostN m)).1),0)):=by
      show _=_;rw[bytesR,if_neg (by simp),if_neg (by simp[hz])]
     rw[hz]at hcall;generalize hf1:(front xs (mostN m)).1=n at hcall HU g4 g5;generalize hf2:(front xs (mostN m)).2.1=k at hcall HU g1 g2 g3;have HC:Hid (Calls Tryz.prog 116 #[v,.int .u64 (mostN m:Int)] w fun e w'=>e = .returned (.tuple #[.int .u64 (n:Int),.int .i64 (k:Int),.int .i64 0])∧w'=w):=hcall;clear hff hcall hf1 hf2 hz;obtain⟨ao,cap,rfl,hcap,hno,hc⟩:=h2;obtain⟨b,off,rfl,hN,hd⟩:=hc (by omega);have hBb:B≤b:=h5 (by omega) _ _ _ _ rfl;(have hkc:k≤cap:=by omega);clear hc hd hno;by_cases hs:xs.length-k<n
     · have hV:=HU.out
       rw[if_pos hs]at hV;have HV:Hid (bytesR xs 0 m=([],xs,20)):=hV;clear hV;clear HU;rcases hcase with⟨hm0,hmm⟩|⟨hm0,hmm⟩
       all_goals
        rw[hmm]at HC;clear hmm;go_enter Tryz.func89,Tryz.ntmps89
        go_wp2_with (first
         |(go_at_call 116;refine HC.out.mono ?_;rintro x w' ⟨rfl,rfl⟩)
         |(go_at_call 117;refine(Fail_any rb xs 0 20 _ HR.out).mono ?_;rintro x w' ⟨rfl,hrd,hbut⟩))
        go_ret;rw[HV.out];exact⟨_,rfl,Bytes.nil _ _,hrd,hbut⟩
     · have hV:=HU.out
       rw[if_neg hs]at hV;have HV:Hid (bytesR xs 0 m=((xs.drop k).take n,xs.drop (k+n),0)):=hV;clear hV;(have hnl:n≤xs.length-k:=by omega);have HW:Hid (Row rb w (.slice (if cap=k then some ⟨b,off,none⟩else some ⟨b,off+k,none⟩) (k+n-k) (cap-k)) ((xs.drop k).take n)):=by
        show Row _ _ _ _;rw[Nat.add_sub_cancel_left];exact row_take (row_drop HD.out.2.1 g2) (by rw[List.length_drop];omega)
       (have HL:Hid ((([]:List Nat).length+((xs.drop k).take n).length≤140737488355328)):=by show _≤_;simp;omega);clear HU hs;rcases hcase with⟨hm0,hmm⟩|⟨hm0,hmm⟩
       all_goals
        rw[hmm]at HC;clear hmm;go_enter Tryz.func89,Tryz.ntmps89;go_wp2_with fail;refine HC.out.mono ?_;rintro x w' ⟨rfl,rfl⟩;clear HC;go_wp2_with (at_builtin;refine append_row (by rfl) _ _ rfl w'.heap.size rb _ _ [] ((xs.drop k).take n) rfl (Bytes.nil _ _) rfl HW.out HL.out (Nat.le_refl _) ?_)
        all_goals
         intro v1 w1 hown1 hb1 _;have hrd1:=(hb1.block rb hlt).trans HD.out.1;obtain⟨d0,d1,k0,k1⟩:=rd_cells hrd1;have HR1:Hid (w1.heap[rb]?=_):=hrd1;have hrow1:=HD.out.2.1.below (hb1.mono (Nat.le_of_lt hlt));have HWC:Hid (cap=k+n→Row rb w1 (.slice (some ⟨b,off,none⟩) (xs.length-(k+n)) 0) (xs.drop (k+n))):=row_drop_eq hrow1 (by omega);have HWE:Hid (cap≠k+n→Row rb w1 (.slice (some ⟨b,off+(k+n),none⟩) (xs.length-(k+n)) (cap-(k+n))) (xs.drop (k+n))):=row_drop_ne hrow1 (by omega);clear hrd1 hrow1 c0 c1 f0 f1;have HO:Hid (Bytes w'.heap.size w1 v1 ((xs.drop k).take n)):=hown1;clear hown1;go_wp2_with fail
         all_goals
          go_ret;rw[HV.out];exact⟨_,rfl,HO.out.but ((But.refl rb w1).setCell 0 _) hlt,⟨_,rd_set0 HR1.out,row_set (by first|exact HWC.out (by omega)|exact HWE.out (by omega)) (Nat.le_refl _),fun x hx=>HD.out.2.2 x (List.mem_of_mem_drop (show x∈xs.drop (k+n)from hx)),by show(xs.drop (k+n)).length≤_;rw[List.length_drop];omega,low_at hBb _ _ _ _⟩,(But.of_below hb1).setCell 0 _⟩
   · have HU:Hid (bytesR xs 0 m=([],xs,((front xs (mostN m)).2.2:Int))):=by show _=_;rw[bytesR,if_neg (by simp),if_pos hz]
     obtain⟨g1,g2,g3⟩:=hff.2 hz;rw[g1,g2]at hcall;generalize hf3:(front xs (mostN m)).2.2=f at hcall HU hz g3;have HC:Hid (Calls Tryz.prog 116 #[v,.int .u64 (mostN m:Int)] w fun e w'=>e = .returned (.tuple #[.int .u64 0,.int .i64 0,.int .i64 (f:Int)])∧w'=w):=hcall;(have hb:((f:Int)==0)=false:=by simpa using hz);clear hff hcall hf3 hz g1 g2;rcases hcase with⟨hm0,hmm⟩|⟨hm0,hmm⟩
     all_goals
      rw[hmm]at HC;clear hmm;go_enter Tryz.func89,Tryz.ntmps89
      go_wp2_with (first
       |(go_at_call 116;refine HC.out.mono ?_;rintro x w' ⟨rfl,rfl⟩)
       |(go_at_call 117;refine(Fail_any rb xs 0 (f:Int) _ HR.out).mono ?_;rintro x w' ⟨rfl,hrd,hbut⟩))
      go_ret;rw[HU.out];exact⟨_,rfl,Bytes.nil _ _,hrd,hbut⟩
 · have hb:(e==0)=false:=by simpa using he
   (have HB:Hid (bytesR xs e m=([],xs,e)):=by show _=_;rw[bytesR,if_pos he]);clear hff hcall;go_enter Tryz.func89,Tryz.ntmps89;go_wp2;go_ret;rw[HB.out];exact⟨_,rfl,Bytes.nil _ _,HR.out,But.refl _ _⟩
set_option maxHeartbeats 2000000 in
theorem codecRead_any(N:Nat)(v:Value)(xs:List Nat)(w:World)(hrow:Row N w v xs)(hx:∀x∈xs,x<256)(hl:xs.length≤140737488355328):
 Calls Tryz.prog 84 #[v] w fun x w'=>∃rb,x = .returned (.pointer (some ⟨rb,0,none⟩))∧w.heap.size≤rb∧Rd w.heap.size w' rb xs 0∧Below w.heap.size w w':=by
 have HR:Hid (Row N w v xs):=hrow;obtain⟨ao,cap,rfl,hcap⟩:=hrow.shape;clear hrow;go_enter Tryz.func84,Tryz.ntmps84;go_wp2_with (at_builtin;refine append_row (by rfl) _ _ rfl w.heap.size N _ _ [] xs rfl (Bytes.nil _ _) rfl HR.out (by simpa using hl) (Nat.le_refl _) ?_);intro v1 w1 hown1 hb1 _;have hs1:=hb1.size;have HO:Hid (Bytes w.heap.size w1 v1 xs):=hown1;obtain⟨ao1,cap1,rfl,hcap1⟩:=hown1.row.shape;clear hown1;go_wp2_with fail;go_ret;refine⟨w1.heap.size,rfl,hs1,⟨_,heap_alloc_new w1 _,HO.out.row.below ((Below.refl _ _).alloc (Nat.le_refl _) _),hx,hl,HO.out.low⟩,hb1.alloc hs1 _⟩
end Go.Proofs.YthecngkdmnadoaaGreat
