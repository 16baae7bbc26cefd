import Derived.WalkKit
namespace Go.Proofs.YtobjpljdgieklaaGreatDoor.Nums
def isR(r:Int):Bool:=decide (0≤r∧r<1114112∧(r<55296∨57343<r))
def vis(r:Int):Bool:=decide (32<r∧r≠127)
def ldSz(b:Int):Int:=if b<128 then 1 else if b<192 then 0 else if b<224 then 2 else if b<240 then 3 else if b<248 then 4 else 0
def sz(r:Int):Int:=if r<128 then 1 else if r<2048 then 2 else if r<65536 then 3 else 4
theorem zBy{k:IntKind}{a b:Int}(h:a=b):Ending.returned (.int k a) = .returned (.int k b):=by rw[h]
theorem zCg{a b:Bool}(h:a=b):Ending.returned (.bool a) = .returned (.bool b):=by rw[h]
theorem zEy{r:Int}(h:0≤r∧r<1114112∧(r<55296∨57343<r)):isR r=true:=by simp only[isR,decide_eq_true_eq];exact h
theorem zEa{r:Int}(h:¬(0≤r∧r<1114112∧(r<55296∨57343<r))):isR r=false:=by simp only[isR,decide_eq_false_iff_not];exact h
def bt(l:List UInt8)(i:Nat):Int:=((l.getD i 0).toNat:Int)
theorem zXa(l:List UInt8)(i:Nat):0≤bt l i∧bt l i<256:=by
 unfold bt;have:=(l.getD i 0).toNat_lt;omega
theorem zNh(s:ByteArray)(i:Nat)(h:i<s.size):((s[i]'h).toNat:Int)=bt s.data.toList i:=by
 have h':i<s.data.toList.length:=by simpa using h
 unfold bt;rw[List.getD_eq_getElem?_getD,List.getElem?_eq_getElem h'];rfl
theorem zAj(s:ByteArray):s.data.toList.length=s.size:=by rw[Array.length_toList];rfl
def acc(ld:Int)(l:List UInt8):Nat→Int
 |0=>0
 |1=>bt l 0-ld
 |k+2=>acc ld l (k+1)*64+(bt l (k+1)-128)
def zJ3(l:List UInt8)(k:Nat):Prop:=∀j,1≤j→j<k→128≤bt l j∧bt l j<192
theorem acc1(ld:Int)(l:List UInt8):acc ld l 1=bt l 0-ld:=rfl
theorem acc2(ld:Int)(l:List UInt8):acc ld l 2=(bt l 0-ld)*64+(bt l 1-128):=rfl
theorem acc3(ld:Int)(l:List UInt8):acc ld l 3=((bt l 0-ld)*64+(bt l 1-128))*64+(bt l 2-128):=rfl
theorem acc4(ld:Int)(l:List UInt8):acc ld l 4=(((bt l 0-ld)*64+(bt l 1-128))*64+(bt l 2-128))*64+(bt l 3-128):=rfl
theorem acc_next(ld:Int)(l:List UInt8){k:Nat}(h:1≤k):acc ld l (k+1)=acc ld l k*64+(bt l k-128):=by
 cases k with
 |zero=>omega
 |succ k=>rfl
theorem acc_bd{ld:Int}{l:List UInt8}(h:0≤bt l 0-ld∧bt l 0-ld<32)(k:Nat)(hk:k≤4)(ht:zJ3 l k):0≤acc ld l k∧acc ld l k<8388608:=by
 obtain rfl|rfl|rfl|rfl|rfl:k=0∨k=1∨k=2∨k=3∨k=4:=by omega
 · simp[acc]
 · rw[acc1];omega
 · have t1:=ht 1 (by omega) (by omega)
   rw[acc2];omega
 · have t1:=ht 1 (by omega) (by omega)
   have t2:=ht 2 (by omega) (by omega);rw[acc3];omega
 · have t1:=ht 1 (by omega) (by omega)
   have t2:=ht 2 (by omega) (by omega);have t3:=ht 3 (by omega) (by omega);rw[acc4];omega
theorem zXj{ld:Int}{l:List UInt8}(h:0≤bt l 0-ld∧bt l 0-ld<32)(k:Nat)(hk:k<4)(ht:zJ3 l k):0≤acc ld l k∧acc ld l k<131072:=by
 obtain rfl|rfl|rfl|rfl:k=0∨k=1∨k=2∨k=3:=by omega
 · simp[acc]
 · rw[acc1];omega
 · have t1:=ht 1 (by omega) (by omega)
   rw[acc2];omega
 · have t1:=ht 1 (by omega) (by omega)
   have t2:=ht 2 (by omega) (by omega);rw[acc3];omega
def low(n:Nat):Int:=if n=2 then 128 else if n=3 then 2048 else 65536
def ldOf(n:Nat):Int:=if n=2 then 192 else if n=3 then 224 else 240
theorem ldOf_bd(n:Nat):192≤ldOf n∧ldOf n≤240:=by
 by_cases h2:n=2
 · simp[ldOf,h2]
 · by_cases h3:n=3
   · simp[ldOf,h3]
   · simp[ldOf,h2,h3]
theorem lead_bd{b:Int}{n:Nat}(h2:2≤n)(h4:n≤4)(hl:ldSz b=n):ldOf n≤b∧b-ldOf n<32:=by
 obtain rfl|rfl|rfl:n=2∨n=3∨n=4:=by omega
 · show(192:Int)≤b∧b-192<32
   unfold ldSz at hl;revert hl;repeat' split
   all_goals (intro hl;omega)
 · show(224:Int)≤b∧b-224<32
   unfold ldSz at hl;revert hl;repeat' split
   all_goals (intro hl;omega)
 · show(240:Int)≤b∧b-240<32
   unfold ldSz at hl;revert hl;repeat' split
   all_goals (intro hl;omega)
def rd(l:List UInt8):Int×Nat:=
 if bt l 0<128 then (bt l 0,1)
 else if 192≤bt l 0∧bt l 0<224∧2≤l.length∧(128≤bt l 1∧bt l 1<192)∧128≤acc 192 l 2∧isR (acc 192 l 2)=true then (acc 192 l 2,2)
 else if 224≤bt l 0∧bt l 0<240∧3≤l.length∧(128≤bt l 1∧bt l 1<192)∧(128≤bt l 2∧bt l 2<192)∧2048≤acc 224 l 3∧isR (acc 224 l 3)=true then (acc 224 l 3,3)
 else if 240≤bt l 0∧bt l 0<248∧4≤l.length∧(128≤bt l 1∧bt l 1<192)∧(128≤bt l 2∧bt l 2<192)∧(128≤bt l 3∧bt l 3<192)∧65536≤acc 240 l 4∧isR (acc 240 l 4)=true then (acc 240 l 4,4)
 else (0,0)
theorem rd_one{l:List UInt8}(h:bt l 0<128):rd l=(bt l 0,1):=by unfold rd;rw[if_pos h]
theorem rd_none{l:List UInt8}(h:128≤bt l 0)(h2:bt l 0<192∨248≤bt l 0):rd l=(0,0):=by
 unfold rd;rw[if_neg (by omega),if_neg (by omega),if_neg (by omega),if_neg (by omega)]
theorem zQa{l:List UInt8}{n:Nat}(h2:2≤n)(h4:n≤4)(hl:ldSz (bt l 0)=n)(hn:n≤l.length)(ht:zJ3 l n)(hlow:low n≤acc (ldOf n) l n)(hr:isR (acc (ldOf n) l n)=true):
 rd l=(acc (ldOf n) l n,n):=by
 obtain rfl|rfl|rfl:n=2∨n=3∨n=4:=by omega
 · have t1:=ht 1 (by omega) (by omega)
   have hb : 192 ≤ bt l 0 ∧ bt l 0 < 224 := by unfold ldSz at hl; revert hl; repeat' split
                                               all_goals (intro hl;omega)
   unfold rd;rw[if_neg (by omega),if_pos ⟨hb.1,hb.2,hn,t1,hlow,hr⟩];rfl
 · have t1:=ht 1 (by omega) (by omega)
   have t2:=ht 2 (by omega) (by omega)
   have hb : 224 ≤ bt l 0 ∧ bt l 0 < 240 := by unfold ldSz at hl; revert hl; repeat' split
                                               all_goals (intro hl;omega)
   unfold rd;rw[if_neg (by omega),if_neg (by omega),if_pos ⟨hb.1,hb.2,hn,t1,t2,hlow,hr⟩];rfl
 · have t1:=ht 1 (by omega) (by omega)
   have t2:=ht 2 (by omega) (by omega);have t3:=ht 3 (by omega) (by omega)
   have hb : 240 ≤ bt l 0 ∧ bt l 0 < 248 := by unfold ldSz at hl; revert hl; repeat' split
                                               all_goals (intro hl;omega)
   unfold rd;rw[if_neg (by omega),if_neg (by omega),if_neg (by omega),if_pos ⟨hb.1,hb.2,hn,t1,t2,t3,hlow,hr⟩];rfl
theorem rd_no{l:List UInt8}{n:Nat}(h2:2≤n)(h4:n≤4)(hl:ldSz (bt l 0)=n)(hno:¬(n≤l.length∧zJ3 l n∧low n≤acc (ldOf n) l n∧isR (acc (ldOf n) l n)=true)):rd l=(0,0):=by
 obtain rfl|rfl|rfl:n=2∨n=3∨n=4:=by omega
 · have hb : 192 ≤ bt l 0 ∧ bt l 0 < 224 := by unfold ldSz at hl; revert hl; repeat' split
                                               all_goals (intro hl;omega)
   unfold rd;rw[if_neg (by omega),if_neg,if_neg (by omega),if_neg (by omega)];rintro⟨_,_,hn,t1,hlow,hr⟩
   exact hno ⟨hn, fun j a b => by obtain rfl : j = 1 := by omega
                                  exact t1,hlow,hr⟩
 · have hb : 224 ≤ bt l 0 ∧ bt l 0 < 240 := by unfold ldSz at hl; revert hl; repeat' split
                                               all_goals (intro hl;omega)
   unfold rd;rw[if_neg (by omega),if_neg (by omega),if_neg,if_neg (by omega)];rintro⟨_,_,hn,t1,t2,hlow,hr⟩
   exact hno ⟨hn, fun j a b => by obtain rfl | rfl : j = 1 ∨ j = 2 := by omega
                                  · exact t1
                                  · exact t2,hlow,hr⟩
 · have hb : 240 ≤ bt l 0 ∧ bt l 0 < 248 := by unfold ldSz at hl; revert hl; repeat' split
                                               all_goals (intro hl;omega)
   unfold rd;rw[if_neg (by omega),if_neg (by omega),if_neg (by omega),if_neg];rintro⟨_,_,hn,t1,t2,t3,hlow,hr⟩
   exact hno ⟨hn, fun j a b => by obtain rfl | rfl | rfl : j = 1 ∨ j = 2 ∨ j = 3 := by omega
                                  · exact t1
                                  · exact t2
                                  · exact t3,hlow,hr⟩
theorem zRu{l:List UInt8}{k:Nat}(h:zJ3 l k)(hk:128≤bt l k∧bt l k<192):zJ3 l (k+1):=by
 intro j h1 h2;by_cases e:j=k
 · subst e;exact hk
 · exact h j h1 (by omega)
theorem zTp(l:List UInt8):zJ3 l 1:=fun j h1 h2=>by omega
theorem zTq{l:List UInt8}{k n:Nat}(h1:1≤k)(hk:k<n)(h:bt l k<128∨192≤bt l k):¬zJ3 l n:=fun t=>by
 have:=t k h1 hk;omega
def wrI(r:Int):List Int:=
 if r<128 then [r]else if r<2048 then [192+r/64,128+r%64]
 else if r<65536 then [224+r/64/64,128+r/64%64,128+r%64]
 else [240+r/64/64/64,128+r/64/64%64,128+r/64%64,128+r%64]
theorem wrI1{r:Int}(h:r<128):wrI r=[r]:=by unfold wrI;rw[if_pos h]
theorem wrI2{r:Int}(h0:128≤r)(h:r<2048):wrI r=[192+r/64,128+r%64]:=by unfold wrI;rw[if_neg (by omega),if_pos h]
theorem wrI3{r:Int}(h0:2048≤r)(h:r<65536):wrI r=[224+r/64/64,128+r/64%64,128+r%64]:=by unfold wrI;rw[if_neg (by omega),if_neg (by omega),if_pos h]
theorem wrI4{r:Int}(h0:65536≤r):wrI r=[240+r/64/64/64,128+r/64/64%64,128+r/64%64,128+r%64]:=by unfold wrI;rw[if_neg (by omega),if_neg (by omega),if_neg (by omega)]
theorem zJx(r:Int):1≤(wrI r).length∧(wrI r).length≤4:=by
 unfold wrI;repeat' split
 all_goals simp
theorem sz1{r:Int}(_:0≤r)(h:r<128):sz r=1:=by unfold sz;rw[if_pos h]
theorem sz2{r:Int}(h0:128≤r)(h:r<2048):sz r=2:=by unfold sz;rw[if_neg (by omega),if_pos h]
theorem sz3{r:Int}(h0:2048≤r)(h:r<65536):sz r=3:=by unfold sz;rw[if_neg (by omega),if_neg (by omega),if_pos h]
theorem sz4{r:Int}(h0:65536≤r)(_:r<1114112):sz r=4:=by unfold sz;rw[if_neg (by omega),if_neg (by omega),if_neg (by omega)]
