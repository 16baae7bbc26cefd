import Derived.Test.YtkdhdehobdfakaaGreatDoorJ7
set_option maxRecDepth 100000
set_option maxHeartbeats 8000000
namespace Go.Proofs.YtkdhdehobdfakaaGreatDoor
section
open Go.RowKit Nums Fm
structure RTy(T TS:TypeId)(k bytes:Nat):Prop where
 und:Tryz.prog.underlying TS=some (.slice T)
 inf:∃z,(Tryz.prog.info? T).map (fun i=>(i.zero,i.size,i.bytes))=some (some z,k,bytes)∧z.cells.size=k
 pos:0<k
 small:bytes≤64
def zG1(k:Nat)(x:List Value):Prop:=x.length=k∧∀u∈x,u.oneCell'=true
def GOwn(T:TypeId)(k B:Nat)(w:World)(v:Value)(xss:List (List Value)):Prop:=(∀x∈xss,zG1 k x)∧w.ownsRow B T k v xss.length xss.flatten
variable {T TS:TypeId} {k bytes B:Nat} {w w':World} {v:Value} {xss:List (List Value)}
theorem GOwn.nil(T:TypeId)(k B:Nat)(w:World):GOwn T k B w (.slice none 0 0) []:=⟨by simp,World.ownsRow_nil _ _ _ _⟩
theorem GOwn.shape(h:GOwn T k B w v xss):∃ad cap,v = .slice ad xss.length cap∧xss.length≤cap:=by
 obtain⟨_,hl,⟨e,h0⟩|⟨g,cap,cur,rfl,_,_,h3,_⟩⟩:=h
 · exact⟨none,0,by rw[e,h0],by omega⟩
 · exact⟨_,cap,rfl,h3⟩
theorem GOwn.mono{B':Nat}(h:GOwn T k B w v xss)(hB:B'≤B):GOwn T k B' w v xss:=by
 obtain⟨h0,hl,hn|⟨g,cap,cur,rfl,h1,h2⟩⟩:=h
 · exact⟨h0,hl,.inl hn⟩
 · exact⟨h0,hl,.inr ⟨g,cap,cur,rfl,by omega,h2⟩⟩
theorem GOwn.block(h:GOwn T k B w v xss){g:Nat}(hg:v.ownBlock=some g):B≤g∧∃cur,w.heap[g]?=some (.cells cur T (0,0)):=by
 obtain⟨_,hl,⟨e,_⟩|⟨g',cap,cur,rfl,h1,h2,_⟩⟩:=h
 · rw[e]at hg;cases hg
 · simp only[Value.ownBlock,Option.some.injEq]at hg
   subst hg;exact⟨h1,cur,h2⟩
theorem GOwn.same(h:GOwn T k B w v xss)(e:∀g,v.ownBlock=some g→w'.heap[g]?=w.heap[g]?):GOwn T k B w' v xss:=by
 obtain⟨h0,hl,hn|⟨g,cap,cur,rfl,h1,hg,h2⟩⟩:=h
 · exact⟨h0,hl,.inl hn⟩
 · exact⟨h0,hl,.inr ⟨g,cap,cur,rfl,h1,(e g rfl).trans hg,h2⟩⟩
theorem GOwn.lt(h:GOwn T k B w v xss){g:Nat}(hg:v.ownBlock=some g):g<w.heap.size:=by
 obtain⟨_,cur,h1⟩:=h.block hg;exact(Array.getElem?_eq_some_iff.1 h1).1
theorem GOwn.below(h:GOwn T k B w v xss)(hb:Below w.heap.size w w'):GOwn T k B w' v xss:=
 h.same fun g hg=>hb.block g (h.lt hg)
theorem zLo:∀(xss:List (List Value)),(∀x∈xss,x.length=k)→∀(i j:Nat) (x:List Value) (u:Value),xss[i]?=some x→x[j]?=some u→xss.flatten[i*k+j]?=some u
 |y::r,hk,0,j,x,u,hi,hj=>by
  simp only[List.getElem?_cons_zero,Option.some.injEq]at hi;subst hi;rw[List.flatten_cons,Nat.zero_mul,Nat.zero_add,List.getElem?_append_left (List.getElem?_eq_some_iff.1 hj).1];exact hj
 |y::r,hk,i+1,j,x,u,hi,hj=>by
  have hy:=hk y (by simp);rw[List.flatten_cons,List.getElem?_append_right (by rw[hy,Nat.add_mul];omega),hy,show(i+1)*k+j-k=i*k+j by rw[Nat.add_mul];omega];exact zLo r (fun x hx=>hk x (by simp[hx])) i j x u (by simpa using hi) hj
theorem GOwn.cell(h:GOwn T k B w v xss)(h0:0<xss.length):∃g cap,v = .slice (some ⟨g,0,none⟩) xss.length cap∧g<w.heap.size∧B≤g∧xss.length≤cap∧∀i j x u,xss[i]?=some x→x[j]?=some u→w.cell? ⟨g,i*k+j,none⟩=some u:=by
 have hlen:∀x∈xss,x.length=k:=fun x hx=>(h.1 x hx).1
 obtain⟨_,hl,⟨_,e⟩|⟨g,cap,cur,rfl,h1,hh,h3,h4,h5,h6⟩⟩:=h
 · omega
 · refine⟨g,cap,rfl,(Array.getElem?_eq_some_iff.1 hh).1,h1,h3,fun i j x u hi hj=>?_⟩
   have e:=zLo xss hlen i j x u hi hj;rw[←h6,List.getElem?_take]at e
   split at e
   · simp only[World.cell?,hh]
     simpa using e
   · cases e
theorem zAx(R:RTy T TS k bytes)(hown:GOwn T k B w v xss)(hB:B≤w.heap.size){x:List Value}(hx:zG1 k x){nb:Nat}(hc:∀j u,x[j]?=some u→w.cell? ⟨nb,j,none⟩=some u)(h63:xss.length<1099511627776)(ty:TypeId)(c:Nat):
 ∃v' w',(Builtin.append_ #[TS,TS] ty #[v,.slice (some ⟨nb,0,none⟩) 1 c]).run Tryz.prog w = .ok v' w'∧GOwn T k B w' v' (xss++[x])∧w.grownBy w' v.ownBlock∧(v'.ownBlock=v.ownBlock∨∃g,v'.ownBlock=some g∧w.heap.size≤g):=by
 obtain⟨z,hz,hzs⟩:=R.inf;obtain⟨i0,hi,hz0,hz1,hz2⟩:=info_parts hz;obtain⟨v',w',h1,h2,h3,_⟩:=run_append_own (P:=Tryz.prog) w B TS ty T i0 z k bytes R.und hi hz0 hz1 hz2 hzs R.pos v xss.length xss.flatten hown.2 ⟨nb,0,none⟩ 1 c x (by rw[hx.1];omega) (fun j u hj=>by
  have hadd:∀j,(⟨nb,0,none⟩:Addr).add j=⟨nb,0+j,none⟩:=fun j=>by unfold Addr.add;split<;>simp_all
  rw[hadd,Nat.zero_add]
  exact hc j u hj) hx.2 (by simp only [maxLen]; omega) (by have := R.small; calc (xss.length + 1) * bytes ≤ (xss.length + 1) * 64 := Nat.mul_le_mul_left _ this
                                                                       _≤140737488355328:=by omega) hB
 have hown':GOwn T k B w' v' (xss++[x]):=by
  refine⟨fun y hy=>?_,?_⟩
  · rcases List.mem_append.1 hy with hy|hy
    · exact hown.1 y hy
    · rw[List.mem_singleton.1 hy];exact hx
  · rw[List.length_append,List.flatten_append]
    simpa using h2
 refine⟨v',w',h1,hown',h3,?_⟩;have hadd:∀j,(⟨nb,0,none⟩:Addr).add j=⟨nb,j,none⟩:=fun j=>by unfold Addr.add;split<;>simp_all
 have hnews:∀j u,x[j]?=some u→w.cell? ((⟨nb,0,none⟩:Addr).add j)=some u:=fun j u hj=>by rw[hadd];exact hc j u hj
 have hl:x.length=1*i0.size:=by rw[hx.1,hz1];omega
 have hb64:(xss.length+1)*i0.bytes≤140737488355328:=by
  rw[hz2];have:=R.small
  calc (xss.length+1)*bytes≤(xss.length+1)*64:=Nat.mul_le_mul_left _ this
   _≤140737488355328:=by omega
 obtain⟨_,hlf,⟨ev,h0⟩|⟨g,cap,cur,ev,hb',hh,hnc,hcm,hcs,htake⟩⟩:=id hown
 · subst ev
   rw[h0]at hb64;have hr:=run_append_nil (P:=Tryz.prog) w TS ty T i0 z R.und hi hz0 ⟨nb,0,none⟩ 1 c x hl hnews (by omega) (by omega) (by omega);rw[hr]at h1;(injection h1 with h1 _);exact .inr ⟨w.heap.size,by rw[←h1];rfl,Nat.le_refl _⟩
 · subst ev
   (have hcs':cur.size=cap*i0.size:=by rw[hz1];exact hcs);(have hlf':xss.flatten.length=xss.length*i0.size:=by rw[hz1];exact hlf);by_cases hroom:xss.length+1≤cap
   · have hfit:xss.length*i0.size+x.length≤cur.size:=by rw[hl,hcs',←Nat.add_mul];exact Nat.mul_le_mul_right _ hroom
     have hr:=run_append_room (P:=Tryz.prog) w TS ty T i0 R.und hi g xss.length cap cur hh ⟨nb,0,none⟩ 1 c x hl hnews hx.2 hroom hfit;rw[hr]at h1;(injection h1 with h1 _);exact .inl (by rw[←h1];rfl)
   · have holds:∀j u,xss.flatten[j]?=some u→w.cell? ((⟨g,0,none⟩:Addr).add j)=some u:=hown.2.cells (g:=g) rfl
     have hr:=run_append_grow (P:=Tryz.prog) w TS ty T i0 z R.und hi hz0 ⟨g,0,none⟩ xss.length cap xss.flatten hlf' holds ⟨nb,0,none⟩ 1 c x hl hnews (by omega) (by omega) (growslice_fits (by omega) hb64);rw[hr]at h1;(injection h1 with h1 _);exact .inr ⟨w.heap.size,by rw[←h1];rfl,Nat.le_refl _⟩
theorem zIf(h:GOwn T k B w v xss)(hg:w.grownBy w' v.ownBlock)(hB:B≤w.heap.size):Below B w w':=
 (Below.refl B w).grown hg hB (fun k hk=>(World.ownsRow.lt h.2 k hk).1)
theorem zC4{W:World}{ops:Array Oper}{rest:List Oper}{o:Oper}{a:Act}{Q:Exit→Act→World→Prop}(R:RTy T TS k bytes)(hgd:o.guard=none)(s y:Operand)(x:List Value)(T2:TypeId)
 (ho:o.op = .call { callee := .builtin .append,args:=#[s,y],argTypes:=#[TS,TS] }) (B nb c:Nat) (v:Value) (xss:List (List Value)) (hs:a.eval s=v) (hown:GOwn T k B W v xss) (hy:a.eval y = .slice (some ⟨nb,0,none⟩) 1 c) (hnb:nb=W.heap.size) (hx:zG1 k x) (h63:xss.length<1099511627776) (hB:B≤W.heap.size)
 (h:∀v' w',GOwn T k B w' v' (xss++[x])→Below B W w'→(W.alloc (.cells x.toArray T2)).grownBy w' v.ownBlock→wpList Tryz.prog ops Q rest (a.put o.dst v') w'):wpList Tryz.prog ops Q (o::rest) a (W.alloc (.cells x.toArray T2)):=by
 subst hnb;have hbA:Below W.heap.size W (W.alloc (.cells x.toArray T2)):=(Below.refl _ W).alloc (Nat.le_refl _) _;obtain⟨v',w',h1,h2,h3,_⟩:=zAx R (hown.below hbA) (by simp;omega) hx (nb:=W.heap.size) (fun j u hj=>by simpa using hj) h63 o.type c;refine wpList_plain hgd fun _ hK=>?_
 unfold Oper.wp execOp;simp only[ho,resolve,invoke,builtin,Sem.run_bind,Sem.run_pure,Result.andThen_ok,List.map_toArray,List.map_cons,List.map_nil,hs,hy,h1];exact hK _ _ (h v' w' h2 (((Below.refl B W).alloc hB _).trans (zIf (hown.below hbA) h3 (by simp;omega))) h3)
theorem rtyE:RTy 146 91 2 32:=⟨by kernel_rfl,⟨.agg #[.slice none 0 0,.int .i64 0],by kernel_rfl,rfl⟩,by decide,by decide⟩
theorem rtyA:RTy 89 54 3 24:=⟨by kernel_rfl,⟨.agg #[.int .i32 0,.int .i64 0,.int .i64 0],by kernel_rfl,rfl⟩,by decide,by decide⟩
theorem rtyS:RTy 56 29 3 40:=⟨by kernel_rfl,⟨.agg #[.bool false,.int .i64 0,.slice none 0 0],by kernel_rfl,rfl⟩,by decide,by decide⟩
end
section
open Go.RowKit Nums Pm
theorem zCe(l:List Pr)(k:Nat)(x:Pr)(h:l[k]?=some x):l.drop k=x::l.drop (k+1):=by
 obtain⟨hk,rfl⟩:=List.getElem?_eq_some_iff.1 h;exact List.drop_eq_getElem_cons hk
theorem PRow.form{w:World}{v:Value}{l:List Pr}(h:PRow w v l):∃ad cap,v = .slice ad l.length cap:=by
 obtain⟨ad,cap,e,_⟩:=h;exact⟨ad,cap,e⟩
def zFs:Option Pr→Pr→Bool
 |none,_=>true
 |some p,x=>zAa p.1 x.1
def oneF(p:Option Pr)(x:Pr):Int:=if zAq x.1.data.toList=false then 71 else if x.2<1∨1048576<x.2 then 72 else if zFs p x=false then 73 else 0
def zBc(p:Option Pr):List Pr→Int
 |[]=>0
 |x::r=>if oneF p x=0 then zBc (some x) r else oneF p x
def zA5(l:List Pr):Nat→Option Pr
 |0=>none
 |k+1=>l[k]?
theorem zF5{l:List Pr}{k:Nat}{x:Pr}(hx:l[k]?=some x){e:Int}(h:oneF (zA5 l k) x=e)(he:e≠0):zBc (zA5 l k) (l.drop k)=e:=by rw[zCe l k x hx,zBc,h,if_neg he]
theorem zJ4{l:List Pr}{k:Nat}{x:Pr}(hx:l[k]?=some x)(h:oneF (zA5 l k) x=0):zBc (zA5 l k) (l.drop k)=zBc (zA5 l (k+1)) (l.drop (k+1)):=by
 rw[zCe l k x hx,zBc,h,if_pos rfl,zA5,hx]
theorem zXk{l:List Pr}{k:Nat}(h:l.length≤k):zBc (zA5 l k) (l.drop k)=0:=by rw[List.drop_eq_nil_of_le h];rfl
theorem one_word{p:Option Pr}{x:Pr}(h:zAq x.1.data.toList=false):oneF p x=71:=by simp[oneF,h]
theorem one_low{p:Option Pr}{x:Pr}(hw:zAq x.1.data.toList=true)(h:x.2<1):oneF p x=72:=by simp[oneF,h,hw]
theorem one_high{p:Option Pr}{x:Pr}(hw:zAq x.1.data.toList=true)(h:1048576<x.2):oneF p x=72:=by simp[oneF,h,hw]
theorem one_late{p:Option Pr}{x:Pr}(hw:zAq x.1.data.toList=true)(h1:¬x.2<1)(h2:¬1048576<x.2)(h:zFs p x=false):oneF p x=73:=by simp[oneF,h,hw,h1,h2]
theorem zVo{p:Option Pr}{x:Pr}(hw:zAq x.1.data.toList=true)(h1:¬x.2<1)(h2:¬1048576<x.2)(h:zFs p x=true):oneF p x=0:=by simp[oneF,h,hw,h1,h2]
def Sm(l:List Pr):Prop:=∀x∈l,x.1.size≤9223372036854775807
theorem Sm.at{l:List Pr}(h:Sm l){k:Nat}{x:Pr}(hx:l[k]?=some x):x.1.size≤9223372036854775807:=h x (List.mem_of_getElem? hx)
theorem zJa(w:World)(v:Value)(l:List Pr)(h:PRow w v l)(hl:l.length≤9223372036854775807)(hsm:Sm l)(ht:Tabs w):
 Calls Tryz.prog 35 #[v] w fun e w'=>e = .returned (.int .i64 (zBc none l))∧Below w.heap.size w w':=by
 obtain⟨ad,cap,rfl⟩:=h.form;have HR:Hid (PRow w (.slice ad l.length cap) l):=h;obtain⟨n,hn⟩:∃n,l.length=n:=⟨_,rfl⟩;have HN:Hid (l.length=n):=hn;have HS:Hid (Sm l):=hsm;have HT:Hid (Tabs w):=ht;rw[hn]at HR hl;obtain⟨F,hF⟩:∃F,zBc none l=F:=⟨_,rfl⟩;have HF:Hid (zBc none l=F):=hF;clear h hsm ht;rw[hn,hF];clear hn hF;go_enter Tryz.func35,Tryz.ntmps35;go_wp2
 go_loopg [3,4,7] n (fun g _ _ s10 wr=>∃(k:Nat),s10 = .int .i64 k∧k≤n∧n-k≤g∧Hid (Below w.heap.size w wr)∧Hid (zBc (zA5 l k) (l.drop k)=F))
 case atStart=>exact⟨0,rfl,Nat.zero_le _,by omega,Below.refl _ _,HF⟩
 case round=>
  obtain⟨k,rfl,hk,hg,HB,HK⟩:=hrel;by_cases hlt:k<n
  · have hltz:(k:Int)<(n:Int):=by omega
    obtain⟨x,hx⟩:∃x,l[k]?=some x:=⟨l[k]'(by have:=HN.out;omega),List.getElem?_eq_getElem _⟩;obtain⟨b,off,rfl,hb,hcell⟩:=(HR.out.below HB.out).at (by omega);obtain⟨c0,c1⟩:=hcell k x hx;have HX:Hid (l[k]?=some x):=hx;obtain⟨X,hXe⟩:∃X:Obj,X = .cells #[.string x.1,.int .i64 x.2] 75:=⟨_,rfl⟩;(have hw:=fun(W:World) (ht:Tabs W)=>zCa x.1 W ht (HS.out.at hx));(have HTA:Hid (∀o,Tabs (wr.alloc o)):=fun o=>(HT.out.below HB.out).below ((Below.refl _ wr).alloc (Nat.le_refl _) o));(have HBA:Hid (∀o q,Below w.heap.size w ((wr.alloc o).drewN q)):=fun o q=>belowN (HB.out.alloc (by have:=HB.out.size;omega) o) q);clear hXe;cases hwd:zAq x.1.data.toList
    · have HE:Hid (F=71):=by show _=_;rw[←HK.out];exact zF5 hx (one_word hwd) (by decide)
      rw[hwd]at hw;clear hcell hx hwd;go_wp2_with (go_at_call 28;refine(hw _ (HTA.out _)).mono ?_;rintro e w2 ⟨rfl,q,rfl⟩);go_ret;exact⟨by rw[HE.out];rfl,HBA.out _ _⟩
    · rw[hwd]at hw
      by_cases hlo:x.2<1
      · have HE:Hid (F=72):=by show _=_;rw[←HK.out];exact zF5 hx (one_low hwd hlo) (by decide)
        clear hcell hx hwd;go_wp2_with (go_at_call 28;refine(hw _ (HTA.out _)).mono ?_;rintro e w2 ⟨rfl,q,rfl⟩);go_ret;exact⟨by rw[HE.out];rfl,HBA.out _ _⟩
      · by_cases hhi:1048576<x.2
        · have HE:Hid (F=72):=by show _=_;rw[←HK.out];exact zF5 hx (one_high hwd hhi) (by decide)
          clear hcell hx hwd;go_wp2_with (go_at_call 28;refine(hw _ (HTA.out _)).mono ?_;rintro e w2 ⟨rfl,q,rfl⟩);go_ret;exact⟨by rw[HE.out];rfl,HBA.out _ _⟩
        · have HWD:Hid (zAq x.1.data.toList=true∧¬x.2<1∧¬1048576<x.2):=⟨hwd,hlo,hhi⟩
          clear hwd;by_cases hk0:k=0
          · have HK2:Hid (zBc (zA5 l (k+1)) (l.drop (k+1))=F):=by show _=_;rw[←HK.out];exact(zJ4 HX.out (zVo HWD.out.1 HWD.out.2.1 HWD.out.2.2 (by rw[hk0];rfl))).symm
            (have hk0z:¬(0:Int)<(k:Int):=by omega);have hgd:decide (0<k)=false:=decide_eq_false (by omega);(have HF2:Hid (∀(W:World) (q:Nat),W=(wr.alloc (.cells #[.string x.1,.int .i64 x.2] 75)).drewN q→W.cell? ⟨wr.heap.size,0,none⟩=some (.string x.1)∧W.cell? ⟨wr.heap.size,1,none⟩=some (.int .i64 x.2)∧W.cell? ⟨b,off+k*2,none⟩=some (.string x.1)∧Hid (Below w.heap.size w W)):=fun W q e=>by subst e;exact⟨by simp,by simp,by have:=((Below.refl _ wr).alloc (Nat.le_refl _) (.cells #[.string x.1,.int .i64 x.2] 75)).cell (p:=⟨b,off+k*2,none⟩) hb;exact this.trans c0,HBA.out _ _⟩);clear hcell hx hk0;go_wp2_with (go_at_call 28;refine(hw _ (HTA.out _)).mono ?_;rintro e w2 ⟨rfl,q,hq⟩;obtain⟨q0,q1,q2,HBq⟩:=HF2.out _ _ hq;clear hq);go_quiet (fail);go_wp2;have HB2:Hid (Below w.heap.size w _):=belowN HBq.out nq;go_roundg (n-(k+1));(case measure=>omega);case rel=>exact⟨k+1,by go_num,by omega,Nat.le_refl _,HB2,HK2⟩
          · obtain⟨kp,hkp⟩:∃kp,kp+1=k:=⟨k-1,by omega⟩
            (have hk0z:(0:Int)<(k:Int):=by omega);have hgd:decide (0<k)=true:=decide_eq_true (by omega);(have ekp:(k:Int)-1=(kp:Int):=by omega);obtain⟨y,hy⟩:∃y,l[kp]?=some y:=⟨l[kp]'(by have:=HN.out;omega),List.getElem?_eq_getElem _⟩;obtain⟨d0,d1⟩:=hcell kp y hy;(have rkp:IntKind.i64.wrap (kp:Int)=(kp:Int):=by rw[IntKind.wrap_i64];omega);(have pkp:(0:Int)≤(kp:Int):=by omega);(have bkp:(kp:Int)<(n:Int):=by omega);(have tkp:(kp:Int).toNat=kp:=by omega);(have hls:=fun W=>zDe y.1 x.1 W);(have HF2:Hid (∀(W:World) (q:Nat),W=(wr.alloc (.cells #[.string x.1,.int .i64 x.2] 75)).drewN q→W.cell? ⟨wr.heap.size,0,none⟩=some (.string x.1)∧W.cell? ⟨wr.heap.size,1,none⟩=some (.int .i64 x.2)∧W.cell? ⟨b,off+kp*2,none⟩=some (.string y.1)∧Hid (Below w.heap.size w W)):=fun W q e=>by subst e;exact⟨by simp,by simp,by have:=((Below.refl _ wr).alloc (Nat.le_refl _) (.cells #[.string x.1,.int .i64 x.2] 75)).cell (p:=⟨b,off+kp*2,none⟩) hb;exact this.trans d0,HBA.out _ _⟩);cases hyx:zAa y.1 x.1
            · have HE:Hid (F=73):=by show _=_;rw[←HK.out];exact zF5 HX.out (one_late HWD.out.1 HWD.out.2.1 HWD.out.2.2 (by rw[←hkp,zA5,hy];exact hyx)) (by decide)
              rw[hyx]at hls;clear hcell hx hkp hy hyx hk0;go_wp2_with (go_at_call 28;refine(hw _ (HTA.out _)).mono ?_;rintro e w2 ⟨rfl,q,hq⟩;obtain⟨q0,q1,q2,HBq⟩:=HF2.out _ _ hq;clear hq);go_quiet (first|(go_at_call 72;refine Calls.quiet_of_same (hls _)));go_wp2;go_ret;exact⟨by rw[HE.out];rfl,belowN HBq.out nq⟩
            · have HK2:Hid (zBc (zA5 l (k+1)) (l.drop (k+1))=F):=by show _=_;rw[←HK.out];exact(zJ4 HX.out (zVo HWD.out.1 HWD.out.2.1 HWD.out.2.2 (by rw[←hkp,zA5,hy];exact hyx))).symm
              rw[hyx]at hls;clear hcell hx hkp hy hyx hk0;go_wp2_with (go_at_call 28;refine(hw _ (HTA.out _)).mono ?_;rintro e w2 ⟨rfl,q,hq⟩;obtain⟨q0,q1,q2,HBq⟩:=HF2.out _ _ hq;clear hq);go_quiet (first|(go_at_call 72;refine Calls.quiet_of_same (hls _)));go_wp2;have HB2:Hid (Below w.heap.size w _):=belowN HBq.out nq;go_roundg (n-(k+1));(case measure=>omega);case rel=>exact⟨k+1,by go_num,by omega,Nat.le_refl _,HB2,HK2⟩
  · have hltz:¬(k:Int)<(n:Int):=by omega
    (have HE:Hid (F=0):=by show _=_;rw[←HK.out];exact zXk (by have:=HN.out;omega));go_wp2;go_ret;exact⟨by rw[HE.out];rfl,HB.out⟩
end
section
open Go.RowKit Nums Fm
def zCx(x:Pr):En:=((rs x.1.data.toList).getD [],x.2)
def ents(l:List Pr):List En:=l.map zCx
theorem Made.runes{B:Nat}{w:World}{v:Value}{xs:List Int}(h:Made B w v xs):RunesAt w.heap.size w v xs:=by
 obtain⟨hl,⟨e,h0⟩|⟨g,cap,cur,rfl,h1,hh,h3,h4,h5,h6⟩⟩:=h
 · exact⟨none,0,by rw[e,h0],fun h=>by omega⟩
 · refine⟨_,cap,rfl,fun _=>⟨g,0,rfl,(Array.getElem?_eq_some_iff.1 hh).1,fun i x hi=>?_⟩⟩
   (have e:(xs.map (Value.int .i32))[i]?=some (.int .i32 x):=by rw[List.getElem?_map,hi];rfl);rw[←h6,List.getElem?_take]at e
   split at e
   · simp only[World.cell?,hh,Nat.zero_add]
     simpa using e
   · cases e
theorem Made.kept{B:Nat}{w w':World}{v u:Value}{xs:List Int}{T:TypeId}{k B':Nat}{xss:List (List Value)}(h:Made B w v xs)(ho:GOwn T k B' w u xss)(hT:T≠21)(hg:w.grownBy w' u.ownBlock):Made B w' v xs:=by
 refine World.ownsRow.kept h hg ?_;by_cases e:v.ownBlock=none
 · exact .inl e
 · refine .inr fun e2=>?_
   obtain⟨g,hgv⟩:=Option.ne_none_iff_exists'.1 e;obtain⟨_,cur,h1⟩:=ho.block (e2.symm.trans hgv);obtain⟨_,⟨ev,_⟩|⟨g',cap,cur',rfl,_,h2,_⟩⟩:=h
   · rw[ev]at hgv;cases hgv
   · simp only[Value.ownBlock,Option.some.injEq]at hgv
     subst hgv;rw[h1]at h2;simp only[Option.some.injEq,Obj.cells.injEq]at h2;exact hT h2.2.1
structure EntsAt(B:Nat)(w:World)(v:Value)(es:List En):Prop where
 ex:∃xss:List (List Value),GOwn 146 2 B w v xss∧xss.length=es.length∧∀(i:Nat) (e:En),es[i]?=some e→∃u,xss[i]?=some [u,.int .i64 e.2]∧Made B w u e.1
theorem EntsAt.row{B:Nat}{w:World}{v:Value}{es:List En}(h:EntsAt B w v es):ERow w.heap.size w v es:=by
 obtain⟨xss,ho,hl,hx⟩:=h;by_cases h0:0<xss.length
 · obtain⟨g,cap,rfl,hg,_,hc,hcell⟩:=ho.cell h0
   refine⟨_,cap,by rw[hl],by omega,fun _=>⟨g,0,rfl,hg,fun i e hi=>?_⟩⟩;obtain⟨u,hu,hm⟩:=hx i e hi;exact⟨u,by rw[Nat.zero_add];exact hcell i 0 _ u hu rfl,by rw[Nat.zero_add];exact hcell i 1 _ _ hu rfl,hm.runes⟩
 · obtain⟨ad,cap,rfl,hc⟩:=ho.shape
   exact⟨ad,cap,by rw[hl],by omega,fun h=>absurd h (by omega)⟩
theorem Made.shape{B:Nat}{w:World}{v:Value}{xs:List Int}(h:Made B w v xs):∃ad cap,v = .slice ad xs.length cap:=by
 obtain⟨hl,⟨e,h0⟩|⟨g,cap,cur,rfl,_⟩⟩:=h
 · exact⟨none,0,by rw[e,h0]⟩
 · exact⟨_,cap,rfl⟩
theorem zNs{l:List Pr}{k:Nat}{x:Pr}(h:l[k]?=some x):ents (l.take (k+1))=ents (l.take k)++[zCx x]:=by
 rw[List.take_add_one,h];simp[ents]
theorem zBa(l:List Pr):(ents l).length=l.length:=by simp[ents]
def Wd(l:List Pr):Prop:=∀x∈l,∃xs,rs x.1.data.toList=some xs∧xs.length≤24∧x.1.size≤96
theorem zPj(w:World)(v:Value)(l:List Pr)(h:PRow w v l)(hl:l.length≤4096)(hwd:Wd l)(ht:Tabs w):
 Calls Tryz.prog 36 #[v] w fun e w'=>∃v',e = .returned v'∧ERow w'.heap.size w' v' (ents l)∧Below w.heap.size w w':=by
 obtain⟨ad,cap,rfl⟩:=h.form;have HR:Hid (PRow w (.slice ad l.length cap) l):=h;obtain⟨n,hn⟩:∃n,l.length=n:=⟨_,rfl⟩;have HN:Hid (l.length=n):=hn;have HS:Hid (Wd l):=hwd;have HT:Hid (Tabs w):=ht;rw[hn]at HR hl;clear h hwd ht;rw[hn];clear hn;go_enter Tryz.func36,Tryz.ntmps36;go_wp2
 go_loopg [3,5,6,7,10] n (fun g s3 _ _ _ s10 wr=>∃(k:Nat),s10 = .int .i64 k∧k≤n∧n-k≤g∧Hid (Below w.heap.size w wr)∧Hid (EntsAt w.heap.size wr s3 (ents (l.take k))))
 case atStart=>exact⟨0,rfl,Nat.zero_le _,by omega,Below.refl _ _,⟨[],GOwn.nil _ _ _ _,rfl,fun i e hi=>by simp[ents]at hi⟩⟩
 case round=>
  obtain⟨k,rfl,hk,hg,HB,HK⟩:=hrel;by_cases hlt:k<n
  · have hltz:(k:Int)<(n:Int):=by omega
    obtain⟨x,hx⟩:∃x,l[k]?=some x:=⟨l[k]'(by have:=HN.out;omega),List.getElem?_eq_getElem _⟩;obtain⟨b,off,rfl,hb,hcell⟩:=(HR.out.below HB.out).at (by omega);obtain⟨c0,c1⟩:=hcell k x hx;obtain⟨xs,hxs,hx24,hx96⟩:=HS.out x (List.mem_of_getElem? hx);(have HE:Hid (ents (l.take (k+1))=ents (l.take k)++[(xs,x.2)]):=by show _=_;rw[zNs hx,zCx,hxs];rfl);have HX:Hid (rs x.1.data.toList=some xs):=hxs;have HRN:Hid (∀W,Tabs W→Calls Tryz.prog 73 #[.string x.1] W fun e w'=>∃v,Below W.heap.size W w'∧e = .returned (.tuple #[v,.bool true])∧Made W.heap.size w' v xs):=fun W hW=>by
     refine(zGe x.1 W hW (by omega) (zCg hxs (by omega))).mono ?_;rintro e w' ⟨v,hb,⟨h1,_⟩|⟨ys,h1,h2,h3⟩⟩
     · rw[HX.out]at h1;cases h1
     · rw[HX.out]at h1;cases h1;exact⟨v,hb,h2,h3⟩
    (have HTA:Hid (∀o,Tabs (wr.alloc o)):=fun o=>(HT.out.below HB.out).below ((Below.refl _ wr).alloc (Nat.le_refl _) o));(have HA:Hid (∀o,Below wr.heap.size wr (wr.alloc o)∧(wr.alloc o).cell? ⟨b,off+k*2,none⟩=some (.string x.1)):=fun o=>⟨(Below.refl _ wr).alloc (Nat.le_refl _) o,(((Below.refl _ wr).alloc (Nat.le_refl _) o).cell (p:=⟨b,off+k*2,none⟩) hb).trans c0⟩);clear hcell hx hxs;(go_upto_region 5 with fail);(have hcA:(wr.alloc (.cells #[.string x.1,.int .i64 x.2] 75)).cell? ⟨wr.heap.size,1,none⟩=some (.int .i64 x.2):=by simp);(have hltA:wr.heap.size<(wr.alloc (.cells #[.string x.1,.int .i64 x.2] 75)).heap.size:=by simp);(go_upto_region 6 with(go_at_call 73;refine(HRN.out _ (HTA.out _)).mono ?_;rintro e w2 ⟨v6,hb2,rfl,hm6⟩));obtain⟨xss,ho,hxl,hxe⟩:=HK.out.ex;have hb20:Below wr.heap.size wr w2:=(HA.out _).1.trans (hb2.mono (HA.out _).1.size);have c21:w2.cell? ⟨wr.heap.size,1,none⟩=some (.int .i64 x.2):=(hb2.cell (p:=⟨wr.heap.size,1,none⟩) hltA).trans hcA;have ho2:GOwn 146 2 w.heap.size w2 u3 xss:=ho.below hb20;have hsz:w.heap.size≤wr.heap.size:=HB.out.size;have HO2:Hid (GOwn 146 2 w.heap.size w2 u3 xss):=ho2;have HM:Hid (∀(i:Nat) (e:En),(ents (l.take k))[i]?=some e→∃u,xss[i]?=some [u,.int .i64 e.2]∧Made w.heap.size w2 u e.1):=fun i e hi=>by
     obtain⟨u,h1,h2⟩:=hxe i e hi;exact⟨u,h1,h2.below hb20⟩
    have HM6:Hid (Made w.heap.size w2 v6 xs):=by
     obtain⟨hl,hn|⟨g,cap,cur,rfl,h1,h2⟩⟩:=hm6
     · exact⟨hl,.inl hn⟩
     · exact⟨hl,.inr ⟨g,cap,cur,rfl,by have:=(HA.out (.cells #[.string x.1,.int .i64 x.2] 75)).1.size;omega,h2⟩⟩
    obtain⟨ra,rc,rfl⟩:=hm6.shape;have HB2:Hid (Below w.heap.size w w2):=HB.out.trans (hb20.mono HB.out.size);(have HL:Hid (xss.length=k):=by show _=_;rw[hxl,zBa,List.length_take];have:=HN.out;omega);clear ho ho2 hxe hxl hm6 hcA hltA hb2 c0 c1;go_wp2_with (at_builtin;refine zC4 rtyE (by rfl) _ _ [.slice ra xs.length rc,.int .i64 x.2] _ rfl w.heap.size _ _ _ _ rfl HO2.out rfl rfl ⟨rfl,by simp[Value.oneCell']⟩ (by have:=HL.out;omega) HB2.out.size ?_);intro v7 w7 ho7 hb7 hg7;have HB7:Hid (Below w.heap.size w w7):=HB2.out.trans hb7;have HK7:Hid (EntsAt w.heap.size w7 v7 (ents (l.take (k+1)))):=by
     show EntsAt _ _ _ _;have hA2:Below w2.heap.size w2 (w2.alloc (.cells [.slice ra xs.length rc,.int .i64 x.2].toArray 146)):=(Below.refl _ w2).alloc (Nat.le_refl _) _;(have hk7:∀{u:Value} {ys:List Int},Made w.heap.size w2 u ys→Made w.heap.size w7 u ys:=fun h=>(h.below hA2).kept (HO2.out.below hA2) (by decide) hg7);rw[HE.out];refine⟨xss++[[.slice ra xs.length rc,.int .i64 x.2]],ho7,by simp[HL.out,zBa];have:=HN.out;omega,fun i e hi=>?_⟩;(have hlen:(ents (l.take k)).length=xss.length:=by rw[zBa,HL.out,List.length_take];have:=HN.out;omega);by_cases hik:i<xss.length
     · rw[List.getElem?_append_left (by omega)]at hi ⊢
       obtain⟨u,h1,h2⟩:=HM.out i e hi;exact⟨u,h1,hk7 h2⟩
     · rw[List.getElem?_append_right (by omega)]at hi ⊢
       rw[hlen]at hi;cases hi0:i-xss.length with
       |zero=>
        rw[hi0]at hi;simp only[List.getElem?_cons_zero,Option.some.injEq]at hi;subst hi;exact⟨_,rfl,hk7 HM6.out⟩
       |succ m=>rw[hi0]at hi;simp at hi
    clear ho7 hb7 hg7 HM HM6 HO2;go_wp2_with fail;go_roundg (n-(k+1));(case measure=>omega);case rel=>exact⟨k+1,by go_num,by omega,Nat.le_refl _,HB7,HK7⟩
  · have hltz:¬(k:Int)<(n:Int):=by omega
    have HE:Hid (l.take k=l):=List.take_of_length_le (by have:=HN.out;omega);go_wp2;go_ret;exact⟨_,rfl,by have:=HK.out.row;rwa [HE.out]at this,HB.out⟩
end
