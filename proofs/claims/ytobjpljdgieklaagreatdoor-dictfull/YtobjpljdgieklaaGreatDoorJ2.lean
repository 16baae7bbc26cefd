import Derived.Test.YtobjpljdgieklaaGreatDoorNums
set_option maxRecDepth 100000
namespace Go.Proofs.YtobjpljdgieklaaGreatDoor
namespace Fm
structure Arc where
 label:Int
 out:Int
 to:Nat
deriving DecidableEq
structure St where
 final:Bool
 out:Int
 arcs:List Arc
deriving DecidableEq
abbrev En:=List Int×Int
def zAz(m:Int):List En→Int
 |[]=>m
 |e::r=>zAz (if e.2<m then e.2 else m) r
def least:List En→Int
 |[]=>0
 |e::r=>zAz e.2 (e::r)
def hd(e:En):Int:=e.1.headD 0
def tl(e:En):En:=(e.1.tail,e.2)
def lead(c:Int):List En→Nat
 |[]=>0
 |e::r=>if hd e=c then lead c r+1 else 0
def grp:List En→List (Int×List En)
 |[]=>[]
 |e::r=>match grp r with
  |[]=>[(hd e,[tl e])]
  |(c,G)::gs=>if hd e=c then (c,tl e::G)::gs else (hd e,[tl e])::(c,G)::gs
def zDg:List En→Bool
 |([],_)::_=>true
 |_=>false
def zAk:List En→List En
 |([],_)::r=>r
 |S=>S
def zC1(S:List En):Int:=match S with
 |([],n)::_=>n-least S
 |_=>0
def zDc(b:List St)(s:St):List St×Nat:=if s∈b then (b,b.idxOf s)else (b++[s],b.length)
def arF(st:List St→List En→List St×Nat)(base:Int):List St→List (Int×List En)→List St×List Arc
 |b,[]=>(b,[])
 |b,(c,G)::r=>((arF st base (st b G).1 r).1,⟨c,least G-base,(st b G).2⟩::(arF st base (st b G).1 r).2)
def stF:Nat→List St→List En→List St×Nat
 |0,b,_=>(b,0)
 |f+1,b,S=>zDc (arF (stF f) (least S) b (grp (zAk S))).1 ⟨zDg S,zC1 S,(arF (stF f) (least S) b (grp (zAk S))).2⟩
def cut(k:Nat)(l:List En):List En:=l.map fun e=>(e.1.drop k,e.2)
def bulk(l:List En):Nat:=(l.map fun e=>e.1.length+1).sum
theorem zLl(l:List En):cut 0 l=l:=by simp[cut]
theorem zCx(k:Nat)(e:En)(l:List En):cut k (e::l)=(e.1.drop k,e.2)::cut k l:=rfl
theorem zPa(k:Nat)(l:List En):(cut k l).length=l.length:=by simp[cut]
theorem zLm(k n:Nat)(l:List En):cut k (l.take n)=(cut k l).take n:=by simp[cut,List.map_take]
theorem zHk(k n:Nat)(l:List En):cut k (l.drop n)=(cut k l).drop n:=by simp[cut,List.map_drop]
theorem cut_tl(k:Nat)(l:List En):cut (k+1) l=(cut k l).map tl:=by
 simp only[cut,List.map_map];refine List.map_congr_left fun e _=>?_
 simp[tl,List.tail_drop]
theorem zJu(k:Nat):∀(l:List En) (m:Int),zAz m (cut k l)=zAz m l
 |[],_=>rfl
 |e::r,m=>by rw[zCx,zAz,zAz,zJu k r]
theorem zFt(k:Nat)(l:List En):least (cut k l)=least l:=by
 cases l with
 |nil=>rfl
 |cons e r=>rw[zCx,least,least,←zCx,zJu]
theorem zVz(c:Int):∀l:List En,lead c l≤l.length
 |[]=>Nat.le_refl _
 |e::r=>by
  rw[lead]
  split
  · simp[zVz c r]
  · simp
theorem zCw(e:En)(r:List En):grp (e::r)=(hd e,((e::r).take (lead (hd e) r+1)).map tl)::grp ((e::r).drop (lead (hd e) r+1)):=by
 induction r generalizing e with
 |nil=>rfl
 |cons e' r ih=>
  rw[grp,ih e'];simp only;by_cases h:hd e=hd e'
  · rw[if_pos h,lead,if_pos h.symm]
    simp[h]
  · rw[if_neg h,lead,if_neg (fun e=>h e.symm)]
    show _=(hd e,[tl e])::grp (e'::r);rw[ih e']
theorem zMu:∀(l:List En) (m:Int),zAz m l≤m
 |[],_=>Int.le_refl _
 |e::r,m=>by
  rw[zAz];have:=zMu r (if e.2<m then e.2 else m);by_cases h:e.2<m
  · rw[if_pos h]at this ⊢;omega
  · rw[if_neg h]at this ⊢;omega
theorem zJt:∀(l:List En) (m:Int),zAz m l=m∨∃e∈l,e.2=zAz m l
 |[],_ => .inl rfl
 |e::r,m=>by
  rw[zAz];rcases zJt r (if e.2<m then e.2 else m)with h|⟨x,hx,h⟩
  · split at h
    · rename_i hlt
      rw[if_pos hlt];exact .inr ⟨e,by simp,h.symm⟩
    · rename_i hlt
      rw[if_neg hlt];exact .inl h
  · exact .inr ⟨x,by simp[hx],h⟩
theorem zJv:∀(l:List En) (m:Int),∀e∈l,zAz m l≤e.2
 |x::r,m,e,h=>by
  rw[zAz];rcases List.mem_cons.1 h with rfl|h
  · have:=zMu r (if e.2<m then e.2 else m)
    by_cases h:e.2<m
    · rw[if_pos h]at this ⊢;omega
    · rw[if_neg h]at this ⊢;omega
  · exact zJv r _ e h
theorem zCo{l:List En}{e:En}(h:e∈l):least l≤e.2:=by
 cases l with
 |nil=>cases h
 |cons x r=>exact zJv _ _ e h
theorem zB8{l:List En}(h:l≠[]):∃e∈l,e.2=least l:=by
 cases l with
 |nil=>exact absurd rfl h
 |cons x r=>
  rcases zJt (x::r) x.2 with h|h
  · exact⟨x,by simp,h.symm⟩
  · exact h
end Fm
namespace Nums
theorem zSg{l:List UInt8}(h:l≠[]):(rd l).2≤l.length∧(rd l).2≤4:=by
 have:1≤l.length:=List.length_pos_iff.2 h;unfold rd;by_cases c1:bt l 0<128
 · rw[if_pos c1];simp;omega
 rw[if_neg c1]
 split
 · simp;omega
 split
 · simp;omega
 split
 · simp;omega
 simp
theorem rd_isR{l:List UInt8}(h:(rd l).2≠0):isR (rd l).1=true:=by
 revert h;unfold rd;by_cases c1:bt l 0<128
 · rw[if_pos c1];intro _;have:=zXy l 0;exact zE2 (by omega)
 rw[if_neg c1]
 split
 · rename_i h;intro _;exact h.2.2.2.2.2
 split
 · rename_i h;intro _;exact h.2.2.2.2.2.2
 split
 · rename_i h;intro _;exact h.2.2.2.2.2.2.2
 intro h;exact absurd rfl h
def rsF:Nat→List UInt8→Option (List Int)
 |0,l=>if l=[]then some []else none
 |f+1,l=>if l=[]then some []else if (rd l).2=0 then none else (rsF f (l.drop (rd l).2)).map (fun t=>(rd l).1::t)
def rs(l:List UInt8):Option (List Int):=rsF l.length l
theorem rsF_fuel:∀(f g:Nat) (l:List UInt8),l.length≤f→l.length≤g→rsF f l=rsF g l:=by
 intro f
 induction f with
 |zero=>
  intro g l hf hg;have e:l=[]:=List.length_eq_zero_iff.1 (by omega);subst e;cases g<;>simp[rsF]
 |succ f ih=>
  intro g l hf hg;by_cases e:l=[]
  · subst e;cases g<;>simp[rsF]
  cases g with
  |zero=>exact absurd (List.length_eq_zero_iff.1 (by omega)) e
  |succ g=>
   simp only[rsF,if_neg e];by_cases z:(rd l).2=0
   · rw[if_pos z,if_pos z]
   · rw[if_neg z,if_neg z,ih g (l.drop (rd l).2) (by simp;omega) (by simp;omega)]
theorem rs_nil:rs []=some []:=by simp[rs,rsF]
theorem rs_none{l:List UInt8}(h:l≠[])(z:(rd l).2=0):rs l=none:=by
 unfold rs;cases e:l.length with
 |zero=>exact absurd (List.length_eq_zero_iff.1 e) h
 |succ f=>simp only[rsF,if_neg h,if_pos z]
theorem zUi{l:List UInt8}(h:l≠[])(z:(rd l).2≠0):rs l=(rs (l.drop (rd l).2)).map (fun t=>(rd l).1::t):=by
 have hl:=zSg h;unfold rs;cases e:l.length with
 |zero=>exact absurd (List.length_eq_zero_iff.1 e) h
 |succ f=>
  simp only[rsF,if_neg h,if_neg z];rw[rsF_fuel f (l.drop (rd l).2).length _ (by simp;omega) (Nat.le_refl _)]
def zAp(l:List UInt8):Bool:=
 match rs l with
 |none=>false
 |some xs=>decide (1≤xs.length)&&decide (xs.length≤24)&&xs.all vis
def zA1(l m:List UInt8)(pre:List Int):Prop:=rs l=(rs m).map (fun t=>pre++t)
theorem zGs(l:List UInt8):zA1 l l []:=by simp[zA1]
theorem zFs{l m:List UInt8}{pre:List Int}(h:zA1 l m pre)(hm:m≠[])(z:(rd m).2≠0):zA1 l (m.drop (rd m).2) (pre++[(rd m).1]):=by
 unfold zA1 at *;rw[h,zUi hm z];cases rs (m.drop (rd m).2)<;>simp
theorem zLb{l:List UInt8}{pre:List Int}(h:zA1 l [] pre):rs l=some pre:=by
 unfold zA1 at h;rw[h,rs_nil];simp
theorem zH8{l m:List UInt8}{pre:List Int}(h:zA1 l m pre)(hm:m≠[])(z:(rd m).2=0):rs l=none:=by
 unfold zA1 at h;rw[h,rs_none hm z];rfl
theorem zTw{l m:List UInt8}{pre:List Int}(h:zA1 l m pre)(hm:m≠[])(z:(rd m).2=0):zAp l=false:=by
 unfold zAp;rw[zH8 h hm z]
theorem zN8{l m:List UInt8}{pre:List Int}(h:zA1 l m pre)(hm:m≠[])(z:(rd m).2≠0)(hv:vis (rd m).1=false):zAp l=false:=by
 have h2:=zFs h hm z;unfold zA1 at h2;unfold zAp;rw[h2];cases rs (m.drop (rd m).2)with
 |none=>rfl
 |some t=>simp[hv]
theorem zTx{l m:List UInt8}{pre:List Int}(h:zA1 l m pre)(hm:m≠[])(z:(rd m).2≠0)(hc:pre.length=24):zAp l=false:=by
 have h2:=zFs h hm z;unfold zA1 at h2;unfold zAp;rw[h2];cases rs (m.drop (rd m).2)with
 |none=>rfl
 |some t=>simp[hc];omega
theorem word_end{l:List UInt8}{pre:List Int}(h:zA1 l [] pre)(hc:pre.length≤24)(hv:pre.all vis=true):zAp l=decide (0<pre.length):=by
 unfold zAp;rw[zLb h];simp only[hv,Bool.and_true];rw[decide_eq_true hc,Bool.and_true];exact decide_eq_decide.2 (by omega)
theorem zG6(s:ByteArray)(n:Nat):(s.extract n s.size).data.toList=s.data.toList.drop n:=by
 simp[ByteArray.extract,ByteArray.copySlice];rw[List.take_of_length_le (by rw[List.length_drop,zAg];omega)]
def zSq:Value→Nat | .string m=>m.size|_=>0
theorem zOn{s:ByteArray}{l:List UInt8}{pre:List Int}{r:Int}{n:Nat}(h:zA1 l s.data.toList pre)(hm:s.data.toList≠[])(hr:rd s.data.toList=(r,n))(z:n≠0):
 zA1 l (s.extract n s.size).data.toList (pre++[r]):=by
 have:=zFs h hm (by rw[hr];exact z);rw[hr]at this;rw[zG6];exact this
theorem zBt(s:ByteArray)(n:Nat):(s.extract n s.size).size=s.size-n:=by
 rw[←zAg,zG6,List.length_drop,zAg]
def Room(l:List UInt8):Prop:=∀(m:List UInt8) (pre:List Int),zA1 l m pre→m.length+pre.length≤l.length→m≠[]→(rd m).2≠0→pre.length+1≤35184372088832
theorem zE1{l:List UInt8}(h:l.length≤35184372088832):Room l:=fun m pre _ h2 h3 _=>by
 have:=List.length_pos_iff.2 h3;omega
theorem zDn{l:List UInt8}{xs:List Int}(h:rs l=some xs)(hx:xs.length≤35184372088832):Room l:=fun m pre hr _ hm z=>by
 have h2:=zFs hr hm z;unfold zA1 at h2;rw[h]at h2;cases e:rs (m.drop (rd m).2)with
 |none=>rw[e]at h2;cases h2
 |some t=>
  rw[e]at h2;have h3:=Option.some.inj h2;rw[h3]at hx;simp at hx;omega
theorem rsF_len:∀(f:Nat) (l:List UInt8) (xs:List Int),rsF f l=some xs→l.length≤4*xs.length∧xs.length≤l.length:=by
 intro f
 induction f with
 |zero=>
  intro l xs h;simp only[rsF]at h;by_cases e:l=[]
  · rw[if_pos e]at h;obtain rfl:=Option.some.inj h;subst e;simp
  · rw[if_neg e]at h;cases h
 |succ f ih=>
  intro l xs h;simp only[rsF]at h;by_cases e:l=[]
  · rw[if_pos e]at h;obtain rfl:=Option.some.inj h;subst e;simp
  rw[if_neg e]at h;by_cases z:(rd l).2=0
  · rw[if_pos z]at h;cases h
  rw[if_neg z]at h;cases h2:rsF f (l.drop (rd l).2)with
  |none=>rw[h2]at h;cases h
  |some t=>
   rw[h2]at h;obtain rfl:=Option.some.inj h;have h3:=ih _ _ h2;have h4:=zSg e;rw[List.length_drop]at h3;rw[List.length_cons];omega
theorem rs_len{l:List UInt8}{xs:List Int}(h:rs l=some xs):l.length≤4*xs.length∧xs.length≤l.length:=rsF_len _ _ _ h
theorem word_far{l:List UInt8}(h:96<l.length):zAp l=false:=by
 unfold zAp;cases e:rs l with
 |none=>rfl
 |some xs=>
  have:=(rs_len e).1;simp;intro _ h2;omega
theorem word_of{l:List UInt8}{xs:List Int}(h:rs l=some xs)(hv:xs.all vis=true):zAp l=(decide (1≤xs.length)&&decide (xs.length≤24)):=by
 unfold zAp;rw[h];simp only[hv,Bool.and_true]
theorem zJb{l:List UInt8}{xs:List Int}{k:Nat}(h:rs l=some xs)(hk:k<xs.length)(hv:vis (xs.getD k 0)=false):zAp l=false:=by
 have hm:xs.getD k 0∈xs:=by simp[List.getD_eq_getElem?_getD,List.getElem?_eq_getElem hk]
 have:xs.all vis=false:=by
  cases e:xs.all vis
  · rfl
  · have:=List.all_eq_true.1 e _ hm;rw[hv]at this;cases this
 unfold zAp;rw[h];simp only[this,Bool.and_false]
theorem all_next{xs:List Int}{k:Nat}(hk:k<xs.length)(h:(xs.take k).all vis=true)(hv:vis (xs.getD k 0)=true):(xs.take (k+1)).all vis=true:=by
 rw[List.take_succ_eq_append_getElem hk,List.all_append,h];have:xs.getD k 0=xs[k]:=by simp[List.getD_eq_getElem?_getD,List.getElem?_eq_getElem hk]
 rw[this]at hv;simp[hv]
end Nums
