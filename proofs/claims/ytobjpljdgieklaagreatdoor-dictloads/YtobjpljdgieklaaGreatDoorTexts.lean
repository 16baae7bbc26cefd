import Derived.Test.YtobjpljdgieklaaGreatDoorNums
namespace Go.Proofs.YtobjpljdgieklaaGreatDoor.Nums
theorem zR6{l:List UInt8}(h:l≠[]):(rd l).2≤l.length∧(rd l).2≤4:=by
 have:1≤l.length:=List.length_pos_iff.2 h;unfold rd;by_cases c1:bt l 0<128
 · rw[if_pos c1];simp;omega
 rw[if_neg c1]
 split
 · simp;omega
 split
 · simp;omega
 split
 · simp;omega
 simp
theorem rd_isR{l:List UInt8}(h:(rd l).2≠0):isR (rd l).1=true:=by
 revert h;unfold rd;by_cases c1:bt l 0<128
 · rw[if_pos c1];intro _;have:=zXa l 0;exact zEy (by omega)
 rw[if_neg c1]
 split
 · rename_i h;intro _;exact h.2.2.2.2.2
 split
 · rename_i h;intro _;exact h.2.2.2.2.2.2
 split
 · rename_i h;intro _;exact h.2.2.2.2.2.2.2
 intro h;exact absurd rfl h
def rsF:Nat→List UInt8→Option (List Int)
 |0,l=>if l=[]then some []else none
 |f+1,l=>if l=[]then some []else if (rd l).2=0 then none else (rsF f (l.drop (rd l).2)).map (fun t=>(rd l).1::t)
def rs(l:List UInt8):Option (List Int):=rsF l.length l
theorem rsF_fuel:∀(f g:Nat) (l:List UInt8),l.length≤f→l.length≤g→rsF f l=rsF g l:=by
 intro f
 induction f with
 |zero=>
  intro g l hf hg;have e:l=[]:=List.length_eq_zero_iff.1 (by omega);subst e;cases g<;>simp[rsF]
 |succ f ih=>
  intro g l hf hg;by_cases e:l=[]
  · subst e;cases g<;>simp[rsF]
  cases g with
  |zero=>exact absurd (List.length_eq_zero_iff.1 (by omega)) e
  |succ g=>
   simp only[rsF,if_neg e];by_cases z:(rd l).2=0
   · rw[if_pos z,if_pos z]
   · rw[if_neg z,if_neg z,ih g (l.drop (rd l).2) (by simp;omega) (by simp;omega)]
theorem rs_nil:rs []=some []:=by simp[rs,rsF]
theorem rs_none{l:List UInt8}(h:l≠[])(z:(rd l).2=0):rs l=none:=by
 unfold rs;cases e:l.length with
 |zero=>exact absurd (List.length_eq_zero_iff.1 e) h
 |succ f=>simp only[rsF,if_neg h,if_pos z]
theorem zT2{l:List UInt8}(h:l≠[])(z:(rd l).2≠0):rs l=(rs (l.drop (rd l).2)).map (fun t=>(rd l).1::t):=by
 have hl:=zR6 h;unfold rs;cases e:l.length with
 |zero=>exact absurd (List.length_eq_zero_iff.1 e) h
 |succ f=>
  simp only[rsF,if_neg h,if_neg z];rw[rsF_fuel f (l.drop (rd l).2).length _ (by simp;omega) (Nat.le_refl _)]
def zAq(l:List UInt8):Bool:=
 match rs l with
 |none=>false
 |some xs=>decide (1≤xs.length)&&decide (xs.length≤24)&&xs.all vis
def zAz(l m:List UInt8)(pre:List Int):Prop:=rs l=(rs m).map (fun t=>pre++t)
theorem zGj(l:List UInt8):zAz l l []:=by simp[zAz]
theorem zFr{l m:List UInt8}{pre:List Int}(h:zAz l m pre)(hm:m≠[])(z:(rd m).2≠0):zAz l (m.drop (rd m).2) (pre++[(rd m).1]):=by
 unfold zAz at *;rw[h,zT2 hm z];cases rs (m.drop (rd m).2)<;>simp
theorem zKx{l:List UInt8}{pre:List Int}(h:zAz l [] pre):rs l=some pre:=by
 unfold zAz at h;rw[h,rs_nil];simp
theorem zHz{l m:List UInt8}{pre:List Int}(h:zAz l m pre)(hm:m≠[])(z:(rd m).2=0):rs l=none:=by
 unfold zAz at h;rw[h,rs_none hm z];rfl
theorem zTg{l m:List UInt8}{pre:List Int}(h:zAz l m pre)(hm:m≠[])(z:(rd m).2=0):zAq l=false:=by
 unfold zAq;rw[zHz h hm z]
theorem zN1{l m:List UInt8}{pre:List Int}(h:zAz l m pre)(hm:m≠[])(z:(rd m).2≠0)(hv:vis (rd m).1=false):zAq l=false:=by
 have h2:=zFr h hm z;unfold zAz at h2;unfold zAq;rw[h2];cases rs (m.drop (rd m).2)with
 |none=>rfl
 |some t=>simp[hv]
theorem zTh{l m:List UInt8}{pre:List Int}(h:zAz l m pre)(hm:m≠[])(z:(rd m).2≠0)(hc:pre.length=24):zAq l=false:=by
 have h2:=zFr h hm z;unfold zAz at h2;unfold zAq;rw[h2];cases rs (m.drop (rd m).2)with
 |none=>rfl
 |some t=>simp[hc];omega
theorem word_end{l:List UInt8}{pre:List Int}(h:zAz l [] pre)(hc:pre.length≤24)(hv:pre.all vis=true):zAq l=decide (0<pre.length):=by
 unfold zAq;rw[zKx h];simp only[hv,Bool.and_true];rw[decide_eq_true hc,Bool.and_true];exact decide_eq_decide.2 (by omega)
theorem zGv(s:ByteArray)(n:Nat):(s.extract n s.size).data.toList=s.data.toList.drop n:=by
 simp[ByteArray.extract,ByteArray.copySlice];rw[List.take_of_length_le (by rw[List.length_drop,zAj];omega)]
def zSh:Value→Nat | .string m=>m.size|_=>0
theorem zOc{s:ByteArray}{l:List UInt8}{pre:List Int}{r:Int}{n:Nat}(h:zAz l s.data.toList pre)(hm:s.data.toList≠[])(hr:rd s.data.toList=(r,n))(z:n≠0):
 zAz l (s.extract n s.size).data.toList (pre++[r]):=by
 have:=zFr h hm (by rw[hr];exact z);rw[hr]at this;rw[zGv];exact this
theorem zBt(s:ByteArray)(n:Nat):(s.extract n s.size).size=s.size-n:=by
 rw[←zAj,zGv,List.length_drop,zAj]
def Room(l:List UInt8):Prop:=∀(m:List UInt8) (pre:List Int),zAz l m pre→m.length+pre.length≤l.length→m≠[]→(rd m).2≠0→pre.length+1≤35184372088832
theorem zEx{l:List UInt8}(h:l.length≤35184372088832):Room l:=fun m pre _ h2 h3 _=>by
 have:=List.length_pos_iff.2 h3;omega
theorem zCf{l:List UInt8}{xs:List Int}(h:rs l=some xs)(hx:xs.length≤35184372088832):Room l:=fun m pre hr _ hm z=>by
 have h2:=zFr hr hm z;unfold zAz at h2;rw[h]at h2;cases e:rs (m.drop (rd m).2)with
 |none=>rw[e]at h2;cases h2
 |some t=>
  rw[e]at h2;have h3:=Option.some.inj h2;rw[h3]at hx;simp at hx;omega
theorem rsF_len:∀(f:Nat) (l:List UInt8) (xs:List Int),rsF f l=some xs→l.length≤4*xs.length∧xs.length≤l.length:=by
 intro f
 induction f with
 |zero=>
  intro l xs h;simp only[rsF]at h;by_cases e:l=[]
  · rw[if_pos e]at h;obtain rfl:=Option.some.inj h;subst e;simp
  · rw[if_neg e]at h;cases h
 |succ f ih=>
  intro l xs h;simp only[rsF]at h;by_cases e:l=[]
  · rw[if_pos e]at h;obtain rfl:=Option.some.inj h;subst e;simp
  rw[if_neg e]at h;by_cases z:(rd l).2=0
  · rw[if_pos z]at h;cases h
  rw[if_neg z]at h;cases h2:rsF f (l.drop (rd l).2)with
  |none=>rw[h2]at h;cases h
  |some t=>
   rw[h2]at h;obtain rfl:=Option.some.inj h;have h3:=ih _ _ h2;have h4:=zR6 e;rw[List.length_drop]at h3;rw[List.length_cons];omega
theorem rs_len{l:List UInt8}{xs:List Int}(h:rs l=some xs):l.length≤4*xs.length∧xs.length≤l.length:=rsF_len _ _ _ h
theorem word_far{l:List UInt8}(h:96<l.length):zAq l=false:=by
 unfold zAq;cases e:rs l with
 |none=>rfl
 |some xs=>
  have:=(rs_len e).1;simp;intro _ h2;omega
theorem word_of{l:List UInt8}{xs:List Int}(h:rs l=some xs)(hv:xs.all vis=true):zAq l=(decide (1≤xs.length)&&decide (xs.length≤24)):=by
 unfold zAq;rw[h];simp only[hv,Bool.and_true]
theorem zIz{l:List UInt8}{xs:List Int}{k:Nat}(h:rs l=some xs)(hk:k<xs.length)(hv:vis (xs.getD k 0)=false):zAq l=false:=by
 have hm:xs.getD k 0∈xs:=by simp[List.getD_eq_getElem?_getD,List.getElem?_eq_getElem hk]
 have:xs.all vis=false:=by
  cases e:xs.all vis
  · rfl
  · have:=List.all_eq_true.1 e _ hm;rw[hv]at this;cases this
 unfold zAq;rw[h];simp only[this,Bool.and_false]
theorem all_next{xs:List Int}{k:Nat}(hk:k<xs.length)(h:(xs.take k).all vis=true)(hv:vis (xs.getD k 0)=true):(xs.take (k+1)).all vis=true:=by
 rw[List.take_succ_eq_append_getElem hk,List.all_append,h];have:xs.getD k 0=xs[k]:=by simp[List.getD_eq_getElem?_getD,List.getElem?_eq_getElem hk]
 rw[this]at hv;simp[hv]
