import Derived.WalkKit
set_option maxRecDepth 100000
set_option maxHeartbeats 8000000
namespace Go.Proofs.YtkdhdehobdfakaaGreatDoor
namespace Nums
def isR(r:Int):Bool:=decide (0≤r∧r<1114112∧(r<55296∨57343<r))
def vis(r:Int):Bool:=decide (32<r∧r≠127)
def ldSz(b:Int):Int:=if b<128 then 1 else if b<192 then 0 else if b<224 then 2 else if b<240 then 3 else if b<248 then 4 else 0
def sz(r:Int):Int:=if r<128 then 1 else if r<2048 then 2 else if r<65536 then 3 else 4
theorem zBx{k:IntKind}{a b:Int}(h:a=b):Ending.returned (.int k a) = .returned (.int k b):=by rw[h]
theorem zCh{a b:Bool}(h:a=b):Ending.returned (.bool a) = .returned (.bool b):=by rw[h]
theorem zE3{r:Int}(h:0≤r∧r<1114112∧(r<55296∨57343<r)):isR r=true:=by simp only[isR,decide_eq_true_eq];exact h
theorem zEe{r:Int}(h:¬(0≤r∧r<1114112∧(r<55296∨57343<r))):isR r=false:=by simp only[isR,decide_eq_false_iff_not];exact h
def bt(l:List UInt8)(i:Nat):Int:=((l.getD i 0).toNat:Int)
theorem zYf(l:List UInt8)(i:Nat):0≤bt l i∧bt l i<256:=by
 unfold bt;have:=(l.getD i 0).toNat_lt;omega
theorem zN2(s:ByteArray)(i:Nat)(h:i<s.size):((s[i]'h).toNat:Int)=bt s.data.toList i:=by
 have h':i<s.data.toList.length:=by simpa using h
 unfold bt;rw[List.getD_eq_getElem?_getD,List.getElem?_eq_getElem h'];rfl
theorem zAk(s:ByteArray):s.data.toList.length=s.size:=by rw[Array.length_toList];rfl
def acc(ld:Int)(l:List UInt8):Nat→Int
 |0=>0
 |1=>bt l 0-ld
 |k+2=>acc ld l (k+1)*64+(bt l (k+1)-128)
def zKn(l:List UInt8)(k:Nat):Prop:=∀j,1≤j→j<k→128≤bt l j∧bt l j<192
theorem acc1(ld:Int)(l:List UInt8):acc ld l 1=bt l 0-ld:=rfl
theorem acc2(ld:Int)(l:List UInt8):acc ld l 2=(bt l 0-ld)*64+(bt l 1-128):=rfl
theorem acc3(ld:Int)(l:List UInt8):acc ld l 3=((bt l 0-ld)*64+(bt l 1-128))*64+(bt l 2-128):=rfl
theorem acc4(ld:Int)(l:List UInt8):acc ld l 4=(((bt l 0-ld)*64+(bt l 1-128))*64+(bt l 2-128))*64+(bt l 3-128):=rfl
theorem acc_next(ld:Int)(l:List UInt8){k:Nat}(h:1≤k):acc ld l (k+1)=acc ld l k*64+(bt l k-128):=by
 cases k with
 |zero=>omega
 |succ k=>rfl
theorem acc_bd{ld:Int}{l:List UInt8}(h:0≤bt l 0-ld∧bt l 0-ld<32)(k:Nat)(hk:k≤4)(ht:zKn l k):0≤acc ld l k∧acc ld l k<8388608:=by
 obtain rfl|rfl|rfl|rfl|rfl:k=0∨k=1∨k=2∨k=3∨k=4:=by omega
 · simp[acc]
 · rw[acc1];omega
 · have t1:=ht 1 (by omega) (by omega)
   rw[acc2];omega
 · have t1:=ht 1 (by omega) (by omega)
   have t2:=ht 2 (by omega) (by omega);rw[acc3];omega
 · have t1:=ht 1 (by omega) (by omega)
   have t2:=ht 2 (by omega) (by omega);have t3:=ht 3 (by omega) (by omega);rw[acc4];omega
theorem zYp{ld:Int}{l:List UInt8}(h:0≤bt l 0-ld∧bt l 0-ld<32)(k:Nat)(hk:k<4)(ht:zKn l k):0≤acc ld l k∧acc ld l k<131072:=by
 obtain rfl|rfl|rfl|rfl:k=0∨k=1∨k=2∨k=3:=by omega
 · simp[acc]
 · rw[acc1];omega
 · have t1:=ht 1 (by omega) (by omega)
   rw[acc2];omega
 · have t1:=ht 1 (by omega) (by omega)
   have t2:=ht 2 (by omega) (by omega);rw[acc3];omega
def low(n:Nat):Int:=if n=2 then 128 else if n=3 then 2048 else 65536
def ldOf(n:Nat):Int:=if n=2 then 192 else if n=3 then 224 else 240
theorem ldOf_bd(n:Nat):192≤ldOf n∧ldOf n≤240:=by
 by_cases h2:n=2
 · simp[ldOf,h2]
 · by_cases h3:n=3
   · simp[ldOf,h3]
   · simp[ldOf,h2,h3]
theorem lead_bd{b:Int}{n:Nat}(h2:2≤n)(h4:n≤4)(hl:ldSz b=n):ldOf n≤b∧b-ldOf n<32:=by
 obtain rfl|rfl|rfl:n=2∨n=3∨n=4:=by omega
 · show(192:Int)≤b∧b-192<32
   unfold ldSz at hl;revert hl;repeat' split
   all_goals (intro hl;omega)
 · show(224:Int)≤b∧b-224<32
   unfold ldSz at hl;revert hl;repeat' split
   all_goals (intro hl;omega)
 · show(240:Int)≤b∧b-240<32
   unfold ldSz at hl;revert hl;repeat' split
   all_goals (intro hl;omega)
def rd(l:List UInt8):Int×Nat:=
 if bt l 0<128 then (bt l 0,1)
 else if 192≤bt l 0∧bt l 0<224∧2≤l.length∧(128≤bt l 1∧bt l 1<192)∧128≤acc 192 l 2∧isR (acc 192 l 2)=true then (acc 192 l 2,2)
 else if 224≤bt l 0∧bt l 0<240∧3≤l.length∧(128≤bt l 1∧bt l 1<192)∧(128≤bt l 2∧bt l 2<192)∧2048≤acc 224 l 3∧isR (acc 224 l 3)=true then (acc 224 l 3,3)
 else if 240≤bt l 0∧bt l 0<248∧4≤l.length∧(128≤bt l 1∧bt l 1<192)∧(128≤bt l 2∧bt l 2<192)∧(128≤bt l 3∧bt l 3<192)∧65536≤acc 240 l 4∧isR (acc 240 l 4)=true then (acc 240 l 4,4)
 else (0,0)
theorem rd_one{l:List UInt8}(h:bt l 0<128):rd l=(bt l 0,1):=by unfold rd;rw[if_pos h]
theorem rd_none{l:List UInt8}(h:128≤bt l 0)(h2:bt l 0<192∨248≤bt l 0):rd l=(0,0):=by
 unfold rd;rw[if_neg (by omega),if_neg (by omega),if_neg (by omega),if_neg (by omega)]
theorem zQy{l:List UInt8}{n:Nat}(h2:2≤n)(h4:n≤4)(hl:ldSz (bt l 0)=n)(hn:n≤l.length)(ht:zKn l n)(hlow:low n≤acc (ldOf n) l n)(hr:isR (acc (ldOf n) l n)=true):
 rd l=(acc (ldOf n) l n,n):=by
 obtain rfl|rfl|rfl:n=2∨n=3∨n=4:=by omega
 · have t1:=ht 1 (by omega) (by omega)
   have hb : 192 ≤ bt l 0 ∧ bt l 0 < 224 := by unfold ldSz at hl; revert hl; repeat' split
                                               all_goals (intro hl;omega)
   unfold rd;rw[if_neg (by omega),if_pos ⟨hb.1,hb.2,hn,t1,hlow,hr⟩];rfl
 · have t1:=ht 1 (by omega) (by omega)
   have t2:=ht 2 (by omega) (by omega)
   have hb : 224 ≤ bt l 0 ∧ bt l 0 < 240 := by unfold ldSz at hl; revert hl; repeat' split
                                               all_goals (intro hl;omega)
   unfold rd;rw[if_neg (by omega),if_neg (by omega),if_pos ⟨hb.1,hb.2,hn,t1,t2,hlow,hr⟩];rfl
 · have t1:=ht 1 (by omega) (by omega)
   have t2:=ht 2 (by omega) (by omega);have t3:=ht 3 (by omega) (by omega)
   have hb : 240 ≤ bt l 0 ∧ bt l 0 < 248 := by unfold ldSz at hl; revert hl; repeat' split
                                               all_goals (intro hl;omega)
   unfold rd;rw[if_neg (by omega),if_neg (by omega),if_neg (by omega),if_pos ⟨hb.1,hb.2,hn,t1,t2,t3,hlow,hr⟩];rfl
theorem rd_no{l:List UInt8}{n:Nat}(h2:2≤n)(h4:n≤4)(hl:ldSz (bt l 0)=n)(hno:¬(n≤l.length∧zKn l n∧low n≤acc (ldOf n) l n∧isR (acc (ldOf n) l n)=true)):rd l=(0,0):=by
 obtain rfl|rfl|rfl:n=2∨n=3∨n=4:=by omega
 · have hb : 192 ≤ bt l 0 ∧ bt l 0 < 224 := by unfold ldSz at hl; revert hl; repeat' split
                                               all_goals (intro hl;omega)
   unfold rd;rw[if_neg (by omega),if_neg,if_neg (by omega),if_neg (by omega)];rintro⟨_,_,hn,t1,hlow,hr⟩
   exact hno ⟨hn, fun j a b => by obtain rfl : j = 1 := by omega
                                  exact t1,hlow,hr⟩
 · have hb : 224 ≤ bt l 0 ∧ bt l 0 < 240 := by unfold ldSz at hl; revert hl; repeat' split
                                               all_goals (intro hl;omega)
   unfold rd;rw[if_neg (by omega),if_neg (by omega),if_neg,if_neg (by omega)];rintro⟨_,_,hn,t1,t2,hlow,hr⟩
   exact hno ⟨hn, fun j a b => by obtain rfl | rfl : j = 1 ∨ j = 2 := by omega
                                  · exact t1
                                  · exact t2,hlow,hr⟩
 · have hb : 240 ≤ bt l 0 ∧ bt l 0 < 248 := by unfold ldSz at hl; revert hl; repeat' split
                                               all_goals (intro hl;omega)
   unfold rd;rw[if_neg (by omega),if_neg (by omega),if_neg (by omega),if_neg];rintro⟨_,_,hn,t1,t2,t3,hlow,hr⟩
   exact hno ⟨hn, fun j a b => by obtain rfl | rfl | rfl : j = 1 ∨ j = 2 ∨ j = 3 := by omega
                                  · exact t1
                                  · exact t2
                                  · exact t3,hlow,hr⟩
theorem zSk{l:List UInt8}{k:Nat}(h:zKn l k)(hk:128≤bt l k∧bt l k<192):zKn l (k+1):=by
 intro j h1 h2;by_cases e:j=k
 · subst e;exact hk
 · exact h j h1 (by omega)
theorem zUn(l:List UInt8):zKn l 1:=fun j h1 h2=>by omega
theorem zUo{l:List UInt8}{k n:Nat}(h1:1≤k)(hk:k<n)(h:bt l k<128∨192≤bt l k):¬zKn l n:=fun t=>by
 have:=t k h1 hk;omega
def wrI(r:Int):List Int:=
 if r<128 then [r]else if r<2048 then [192+r/64,128+r%64]
 else if r<65536 then [224+r/64/64,128+r/64%64,128+r%64]
 else [240+r/64/64/64,128+r/64/64%64,128+r/64%64,128+r%64]
theorem wrI1{r:Int}(h:r<128):wrI r=[r]:=by unfold wrI;rw[if_pos h]
theorem wrI2{r:Int}(h0:128≤r)(h:r<2048):wrI r=[192+r/64,128+r%64]:=by unfold wrI;rw[if_neg (by omega),if_pos h]
theorem wrI3{r:Int}(h0:2048≤r)(h:r<65536):wrI r=[224+r/64/64,128+r/64%64,128+r%64]:=by unfold wrI;rw[if_neg (by omega),if_neg (by omega),if_pos h]
theorem wrI4{r:Int}(h0:65536≤r):wrI r=[240+r/64/64/64,128+r/64/64%64,128+r/64%64,128+r%64]:=by unfold wrI;rw[if_neg (by omega),if_neg (by omega),if_neg (by omega)]
theorem zKh(r:Int):1≤(wrI r).length∧(wrI r).length≤4:=by
 unfold wrI;repeat' split
 all_goals simp
theorem sz1{r:Int}(_:0≤r)(h:r<128):sz r=1:=by unfold sz;rw[if_pos h]
theorem sz2{r:Int}(h0:128≤r)(h:r<2048):sz r=2:=by unfold sz;rw[if_neg (by omega),if_pos h]
theorem sz3{r:Int}(h0:2048≤r)(h:r<65536):sz r=3:=by unfold sz;rw[if_neg (by omega),if_neg (by omega),if_pos h]
theorem sz4{r:Int}(h0:65536≤r)(_:r<1114112):sz r=4:=by unfold sz;rw[if_neg (by omega),if_neg (by omega),if_neg (by omega)]
end Nums
namespace Nums
theorem zSz{l:List UInt8}(h:l≠[]):(rd l).2≤l.length∧(rd l).2≤4:=by
 have:1≤l.length:=List.length_pos_iff.2 h;unfold rd;by_cases c1:bt l 0<128
 · rw[if_pos c1];simp;omega
 rw[if_neg c1]
 split
 · simp;omega
 split
 · simp;omega
 split
 · simp;omega
 simp
theorem rd_isR{l:List UInt8}(h:(rd l).2≠0):isR (rd l).1=true:=by
 revert h;unfold rd;by_cases c1:bt l 0<128
 · rw[if_pos c1];intro _;have:=zYf l 0;exact zE3 (by omega)
 rw[if_neg c1]
 split
 · rename_i h;intro _;exact h.2.2.2.2.2
 split
 · rename_i h;intro _;exact h.2.2.2.2.2.2
 split
 · rename_i h;intro _;exact h.2.2.2.2.2.2.2
 intro h;exact absurd rfl h
def rsF:Nat→List UInt8→Option (List Int)
 |0,l=>if l=[]then some []else none
 |f+1,l=>if l=[]then some []else if (rd l).2=0 then none else (rsF f (l.drop (rd l).2)).map (fun t=>(rd l).1::t)
def rs(l:List UInt8):Option (List Int):=rsF l.length l
theorem rsF_fuel:∀(f g:Nat) (l:List UInt8),l.length≤f→l.length≤g→rsF f l=rsF g l:=by
 intro f
 induction f with
 |zero=>
  intro g l hf hg;have e:l=[]:=List.length_eq_zero_iff.1 (by omega);subst e;cases g<;>simp[rsF]
 |succ f ih=>
  intro g l hf hg;by_cases e:l=[]
  · subst e;cases g<;>simp[rsF]
  cases g with
  |zero=>exact absurd (List.length_eq_zero_iff.1 (by omega)) e
  |succ g=>
   simp only[rsF,if_neg e];by_cases z:(rd l).2=0
   · rw[if_pos z,if_pos z]
   · rw[if_neg z,if_neg z,ih g (l.drop (rd l).2) (by simp;omega) (by simp;omega)]
theorem rs_nil:rs []=some []:=by simp[rs,rsF]
theorem rs_none{l:List UInt8}(h:l≠[])(z:(rd l).2=0):rs l=none:=by
 unfold rs;cases e:l.length with
 |zero=>exact absurd (List.length_eq_zero_iff.1 e) h
 |succ f=>simp only[rsF,if_neg h,if_pos z]
theorem zUz{l:List UInt8}(h:l≠[])(z:(rd l).2≠0):rs l=(rs (l.drop (rd l).2)).map (fun t=>(rd l).1::t):=by
 have hl:=zSz h;unfold rs;cases e:l.length with
 |zero=>exact absurd (List.length_eq_zero_iff.1 e) h
 |succ f=>
  simp only[rsF,if_neg h,if_neg z];rw[rsF_fuel f (l.drop (rd l).2).length _ (by simp;omega) (Nat.le_refl _)]
def zAq(l:List UInt8):Bool:=
 match rs l with
 |none=>false
 |some xs=>decide (1≤xs.length)&&decide (xs.length≤24)&&xs.all vis
def zA0(l m:List UInt8)(pre:List Int):Prop:=rs l=(rs m).map (fun t=>pre++t)
theorem zGt(l:List UInt8):zA0 l l []:=by simp[zA0]
theorem zF0{l m:List UInt8}{pre:List Int}(h:zA0 l m pre)(hm:m≠[])(z:(rd m).2≠0):zA0 l (m.drop (rd m).2) (pre++[(rd m).1]):=by
 unfold zA0 at *;rw[h,zUz hm z];cases rs (m.drop (rd m).2)<;>simp
theorem zLh{l:List UInt8}{pre:List Int}(h:zA0 l [] pre):rs l=some pre:=by
 unfold zA0 at h;rw[h,rs_nil];simp
theorem zIa{l m:List UInt8}{pre:List Int}(h:zA0 l m pre)(hm:m≠[])(z:(rd m).2=0):rs l=none:=by
 unfold zA0 at h;rw[h,rs_none hm z];rfl
theorem zUd{l m:List UInt8}{pre:List Int}(h:zA0 l m pre)(hm:m≠[])(z:(rd m).2=0):zAq l=false:=by
 unfold zAq;rw[zIa h hm z]
theorem zOm{l m:List UInt8}{pre:List Int}(h:zA0 l m pre)(hm:m≠[])(z:(rd m).2≠0)(hv:vis (rd m).1=false):zAq l=false:=by
 have h2:=zF0 h hm z;unfold zA0 at h2;unfold zAq;rw[h2];cases rs (m.drop (rd m).2)with
 |none=>rfl
 |some t=>simp[hv]
theorem zUe{l m:List UInt8}{pre:List Int}(h:zA0 l m pre)(hm:m≠[])(z:(rd m).2≠0)(hc:pre.length=24):zAq l=false:=by
 have h2:=zF0 h hm z;unfold zA0 at h2;unfold zAq;rw[h2];cases rs (m.drop (rd m).2)with
 |none=>rfl
 |some t=>simp[hc];omega
theorem word_end{l:List UInt8}{pre:List Int}(h:zA0 l [] pre)(hc:pre.length≤24)(hv:pre.all vis=true):zAq l=decide (0<pre.length):=by
 unfold zAq;rw[zLh h];simp only[hv,Bool.and_true];rw[decide_eq_true hc,Bool.and_true];exact decide_eq_decide.2 (by omega)
theorem zG7(s:ByteArray)(n:Nat):(s.extract n s.size).data.toList=s.data.toList.drop n:=by
 simp[ByteArray.extract,ByteArray.copySlice];rw[List.take_of_length_le (by rw[List.length_drop,zAk];omega)]
def zTa:Value→Nat | .string m=>m.size|_=>0
theorem zO1{s:ByteArray}{l:List UInt8}{pre:List Int}{r:Int}{n:Nat}(h:zA0 l s.data.toList pre)(hm:s.data.toList≠[])(hr:rd s.data.toList=(r,n))(z:n≠0):
 zA0 l (s.extract n s.size).data.toList (pre++[r]):=by
 have:=zF0 h hm (by rw[hr];exact z);rw[hr]at this;rw[zG7];exact this
theorem zBs(s:ByteArray)(n:Nat):(s.extract n s.size).size=s.size-n:=by
 rw[←zAk,zG7,List.length_drop,zAk]
def Room(l:List UInt8):Prop:=∀(m:List UInt8) (pre:List Int),zA0 l m pre→m.length+pre.length≤l.length→m≠[]→(rd m).2≠0→pre.length+1≤35184372088832
theorem zE2{l:List UInt8}(h:l.length≤35184372088832):Room l:=fun m pre _ h2 h3 _=>by
 have:=List.length_pos_iff.2 h3;omega
theorem zCg{l:List UInt8}{xs:List Int}(h:rs l=some xs)(hx:xs.length≤35184372088832):Room l:=fun m pre hr _ hm z=>by
 have h2:=zF0 hr hm z;unfold zA0 at h2;rw[h]at h2;cases e:rs (m.drop (rd m).2)with
 |none=>rw[e]at h2;cases h2
 |some t=>
  rw[e]at h2;have h3:=Option.some.inj h2;rw[h3]at hx;simp at hx;omega
theorem rsF_len:∀(f:Nat) (l:List UInt8) (xs:List Int),rsF f l=some xs→l.length≤4*xs.length∧xs.length≤l.length:=by
 intro f
 induction f with
 |zero=>
  intro l xs h;simp only[rsF]at h;by_cases e:l=[]
  · rw[if_pos e]at h;obtain rfl:=Option.some.inj h;subst e;simp
  · rw[if_neg e]at h;cases h
 |succ f ih=>
  intro l xs h;simp only[rsF]at h;by_cases e:l=[]
  · rw[if_pos e]at h;obtain rfl:=Option.some.inj h;subst e;simp
  rw[if_neg e]at h;by_cases z:(rd l).2=0
  · rw[if_pos z]at h;cases h
  rw[if_neg z]at h;cases h2:rsF f (l.drop (rd l).2)with
  |none=>rw[h2]at h;cases h
  |some t=>
   rw[h2]at h;obtain rfl:=Option.some.inj h;have h3:=ih _ _ h2;have h4:=zSz e;rw[List.length_drop]at h3;rw[List.length_cons];omega
theorem rs_len{l:List UInt8}{xs:List Int}(h:rs l=some xs):l.length≤4*xs.length∧xs.length≤l.length:=rsF_len _ _ _ h
theorem word_far{l:List UInt8}(h:96<l.length):zAq l=false:=by
 unfold zAq;cases e:rs l with
 |none=>rfl
 |some xs=>
  have:=(rs_len e).1;simp;intro _ h2;omega
theorem word_of{l:List UInt8}{xs:List Int}(h:rs l=some xs)(hv:xs.all vis=true):zAq l=(decide (1≤xs.length)&&decide (xs.length≤24)):=by
 unfold zAq;rw[h];simp only[hv,Bool.and_true]
theorem zJg{l:List UInt8}{xs:List Int}{k:Nat}(h:rs l=some xs)(hk:k<xs.length)(hv:vis (xs.getD k 0)=false):zAq l=false:=by
 have hm:xs.getD k 0∈xs:=by simp[List.getD_eq_getElem?_getD,List.getElem?_eq_getElem hk]
 have:xs.all vis=false:=by
  cases e:xs.all vis
  · rfl
  · have:=List.all_eq_true.1 e _ hm;rw[hv]at this;cases this
 unfold zAq;rw[h];simp only[this,Bool.and_false]
theorem all_next{xs:List Int}{k:Nat}(hk:k<xs.length)(h:(xs.take k).all vis=true)(hv:vis (xs.getD k 0)=true):(xs.take (k+1)).all vis=true:=by
 rw[List.take_succ_eq_append_getElem hk,List.all_append,h];have:xs.getD k 0=xs[k]:=by simp[List.getD_eq_getElem?_getD,List.getElem?_eq_getElem hk]
 rw[this]at hv;simp[hv]
end Nums
