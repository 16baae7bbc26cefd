/- Texts that were written apart, joined. -/
import Derived.Test.YthecngkdmnadoaaGreatRows
import Derived.WalkKit
import Derived.ProofKit
import Derived.WalkSmall
import Derived.Maps.OwnSet
import Derived.Maps.RangeWalk
import Derived.Test.YthecngkdmnadoaaGreatG00
import Derived.Deep.MidRow
namespace Go.Proofs.YthecngkdmnadoaaGreat
open Go.RowKit Go.MapKept
set_option maxRecDepth 100000
section lists
variable {α:Type}
def mput(k:Int)(v:α):List (Int×α)→List (Int×α)
 |[]=>[(k,v)]
 |p::r=>if p.1=k then (k,v)::r else p::mput k v r
def mget(k:Int):List (Int×α)→Option α
 |[]=>none
 |p::r=>if p.1=k then some p.2 else mget k r
def mdel(k:Int):List (Int×α)→List (Int×α)
 |[]=>[]
 |p::r=>if p.1=k then r else p::mdel k r
def keys(m:List (Int×α)):List Int:=m.map (·.1)
theorem mget_mput(k j:Int)(v:α)(m:List (Int×α)):mget j (mput k v m)=if j=k then some v else mget j m:=by
 induction m with
 |nil=>
  by_cases h:j=k
  · simp[mput,mget,h]
  · have h':¬k=j:=fun e=>h e.symm
    simp[mput,mget,h,h']
 |cons p r ih=>
  by_cases h:p.1=k
  · simp only[mput,if_pos h,mget]
    by_cases hj:j=k
    · simp[hj]
    · rw[if_neg (fun e=>hj e.symm),if_neg hj,if_neg (fun e=>hj (e.symm.trans h))]
  · simp only[mput,if_neg h,mget]
    by_cases hj:p.1=j
    · rw[if_pos hj,if_neg (fun e=>h (hj.trans e)),if_pos hj]
    · rw[if_neg hj,if_neg hj,ih]
theorem mem_keys_of_mget{k:Int}{v:α}{m:List (Int×α)}(h:mget k m=some v):(k,v)∈m:=by
 induction m with
 |nil=>simp[mget]at h
 |cons p r ih=>
  by_cases e:p.1=k
  · simp only[mget,if_pos e,Option.some.injEq]at h
    subst h;subst e;exact .head _
  · simp only[mget,if_neg e]at h
    exact .tail _ (ih h)
theorem mget_none{k:Int}{m:List (Int×α)}:mget k m=none↔k∉keys m:=by
 induction m with
 |nil=>simp[mget,keys]
 |cons p r ih=>
  by_cases e:p.1=k
  · simp[mget,keys,e]
  · simp only[mget,if_neg e,ih,keys,List.map_cons,List.mem_cons,not_or]
    exact⟨fun h=>⟨fun e1=>e e1.symm,h⟩,fun h=>h.2⟩
theorem mget_of_mem{k:Int}{v:α}{m:List (Int×α)}(hn:(keys m).Nodup)(h:(k,v)∈m):mget k m=some v:=by
 induction m with
 |nil=>cases h
 |cons p r ih=>
  obtain⟨h1,h2⟩:=List.nodup_cons.1 hn;rcases List.mem_cons.1 h with e|hr
  · subst e;simp[mget]
  · have hk:k∈keys r:=List.mem_map.2 ⟨_,hr,rfl⟩
    rw[mget,if_neg (fun e:p.1=k=>h1 (show p.1∈keys r from e▸hk))];exact ih h2 hr
theorem mem_keys{k:Int}{m:List (Int×α)}:k∈keys m↔(mget k m).isSome:=by
 cases h:mget k m with
 |none=>simp[mget_none.1 h]
 |some v=>simp only[Option.isSome_some,iff_true];exact List.mem_map.2 ⟨_,mem_keys_of_mget h,rfl⟩
theorem keys_mput(k:Int)(v:α)(m:List (Int×α)):keys (mput k v m)=if k∈keys m then keys m else keys m++[k]:=by
 induction m with
 |nil=>simp[mput,keys]
 |cons p r ih=>
  by_cases e:p.1=k
  · simp only[mput,keys,List.map_cons,e,List.mem_cons,true_or,if_true]
  · have ih':List.map (·.1) (mput k v r)=if k∈List.map (·.1) r then List.map (·.1) r else List.map (·.1) r++[k]:=ih
    (have e':¬k=p.1:=fun h=>e h.symm);simp only[mput,if_neg e,keys,List.map_cons,ih',List.mem_cons,e',false_or];by_cases hk:k∈List.map (·.1) r
    · rw[if_pos hk,if_pos hk]
    · rw[if_neg hk,if_neg hk,List.cons_append]
theorem nodup_mput{k:Int}{v:α}{m:List (Int×α)}(h:(keys m).Nodup):(keys (mput k v m)).Nodup:=by
 rw[keys_mput]
 split
 · exact h
 · rename_i hk
   rw[List.nodup_append];exact⟨h,by simp,fun a ha b hb=>by simp only[List.mem_singleton]at hb;subst hb;exact fun e=>hk (e▸ha)⟩
theorem mput_of_mem{k:Int}{v:α}{m:List (Int×α)}(h:k∈keys m):(mput k v m).length=m.length:=by
 have:=keys_mput k v m;rw[if_pos h]at this;simpa[keys]using congrArg List.length this
theorem mput_of_not_mem{k:Int}{v:α}{m:List (Int×α)}(h:k∉keys m):mput k v m=m++[(k,v)]:=by
 induction m with
 |nil=>rfl
 |cons p r ih=>
  simp only[keys,List.map_cons,List.mem_cons,not_or]at h;rw[mput,if_neg (fun e=>h.1 e.symm),ih h.2,List.cons_append]
theorem mem_mput{k:Int}{v:α}{m:List (Int×α)}{x:Int×α}(h:x∈mput k v m):x=(k,v)∨x∈m:=by
 induction m with
 |nil=>simp[mput]at h;exact .inl h
 |cons p r ih=>
  by_cases e:p.1=k
  · rw[mput,if_pos e]at h
    rcases List.mem_cons.1 h with h|h
    · exact .inl h
    · exact .inr (.tail _ h)
  · rw[mput,if_neg e]at h
    rcases List.mem_cons.1 h with h|h
    · exact .inr (h ▸ .head _)
    · exact(ih h).imp id (.tail _)
theorem mdel_sub(k:Int)(m:List (Int×α)):(mdel k m).Sublist m:=by
 induction m with
 |nil=>exact List.Sublist.refl _
 |cons p r ih=>
  by_cases e:p.1=k
  · rw[mdel,if_pos e];exact List.sublist_cons_self _ _
  · rw[mdel,if_neg e];exact ih.cons_cons _
theorem nodup_mdel{k:Int}{m:List (Int×α)}(h:(keys m).Nodup):(keys (mdel k m)).Nodup:=((mdel_sub k m).map _).nodup h
theorem mget_mdel{k j:Int}{m:List (Int×α)}(h:(keys m).Nodup):mget j (mdel k m)=if j=k then none else mget j m:=by
 induction m with
 |nil=>simp[mdel,mget]
 |cons p r ih=>
  obtain⟨h1,h2⟩:=List.nodup_cons.1 h;by_cases e:p.1=k
  · rw[mdel,if_pos e]
    by_cases hj:j=k
    · rw[if_pos hj,mget_none,hj,←e];exact h1
    · rw[if_neg hj,mget,if_neg (fun e1=>hj (e1.symm.trans e))]
  · rw[mdel,if_neg e,mget,mget,ih h2]
    by_cases hj:p.1=j
    · rw[if_pos hj,if_neg (fun e1=>e (hj.trans e1)),if_pos hj]
    · rw[if_neg hj,if_neg hj]
theorem mdel_of_not_mem{k:Int}{m:List (Int×α)}(h:k∉keys m):mdel k m=m:=by
 induction m with
 |nil=>rfl
 |cons p r ih=>
  simp only[keys,List.map_cons,List.mem_cons,not_or]at h;rw[mdel,if_neg (fun e=>h.1 e.symm),ih h.2]
end lists
variable {α:Type} {P:Program}
def MapAt(q:IntKind)(f:α→Value)(w:World)(b:Nat)(m:List (Int×α)):Prop:=
 ∃es clock,w.heap[b]?=some (.map es clock)∧es.toList.map (fun e=>(e.key,e.val))=m.map (fun p=>(Value.int q p.1,f p.2))∧(keys m).Nodup∧(∀x∈es.toList,x.born<clock)∧(es.toList.map (·.born)).Nodup
theorem MapAt.lt{q:IntKind}{f:α→Value}{w:World}{b:Nat}{m:List (Int×α)}(h:MapAt q f w b m):b<w.heap.size:=by
 obtain⟨es,clock,hb,_⟩:=h;exact(Array.getElem?_eq_some_iff.1 hb).1
theorem MapAt.nodup{q:IntKind}{f:α→Value}{w:World}{b:Nat}{m:List (Int×α)}(h:MapAt q f w b m):(keys m).Nodup:=by
 obtain⟨es,clock,hb,_,hn,_⟩:=h;exact hn
theorem MapAt.same{q:IntKind}{f:α→Value}{w w':World}{b:Nat}{m:List (Int×α)}(h:MapAt q f w b m)(e:w'.heap[b]?=w.heap[b]?):MapAt q f w' b m:=by
 obtain⟨es,clock,hb,r⟩:=h;exact⟨es,clock,e.trans hb,r⟩
theorem MapAt.new(q:IntKind)(f:α→Value)(w:World):MapAt q f (w.alloc (.map #[] 0)) w.heap.size []:=
 ⟨#[],0,(MapKept.heap_alloc w _).1,rfl,by simp[keys],by simp,by simp⟩
theorem find_in(q:IntKind)(f:α→Value)(k:Int):∀(l:List MapEntry) (m:List (Int×α)) (i:Nat),l.map (fun e=>(e.key,e.val))=m.map (fun p=>(Value.int q p.1,f p.2)) →
 (k∉keys m∧Instr.findNow (.int q) (.int q k) l i=some none) ∨
 ∃j v,mget k m=some v∧Instr.findNow (.int q) (.int q k) l i=some (some (i+j,f v))∧j<l.length∧(∀u:α,(m.set j (k,u))=mput k u m)∧m.eraseIdx j=mdel k m∧(l[j]?).map (·.key)=some (.int q k):=by
 intro l
 induction l with
 |nil=>
  intro m i h;have:m=[]:=List.map_eq_nil_iff.1 h.symm;subst this;exact .inl ⟨by simp[keys],rfl⟩
 |cons e r ih=>
  intro m i h;cases m with
  |nil=>simp at h
  |cons p m=>
   simp only[List.map_cons,List.cons.injEq,Prod.mk.injEq]at h;obtain⟨⟨hk,hv⟩,hr⟩:=h;by_cases e1:p.1=k
   · refine .inr ⟨0,p.2,by simp[mget,e1],?_,by simp,?_,?_,?_⟩
     · simp[Instr.findNow,hk,Instr.sameNow,e1,hv]
     · intro u;simp[mput,e1]
     · simp[mdel,e1]
     · simp[hk,e1]
   · have hs:Instr.sameNow (.int q) (.int q k) e.key=some false:=by
      rw[hk];simp[Instr.sameNow];exact fun e2=>e1 e2.symm
     rcases ih m (i+1) hr with⟨h1,h2⟩|⟨j,v,h1,h2,h3,h4,h5,h6⟩
     · refine .inl ⟨?_,?_⟩
       · simp only[keys,List.map_cons,List.mem_cons,not_or]
         exact⟨fun e2=>e1 e2.symm,h1⟩
       · simp[Instr.findNow,hs,h2]
     · refine .inr ⟨j+1,v,by simp[mget,e1,h1],?_,by simpa using h3,?_,?_,?_⟩
       · simp[Instr.findNow,hs,h2];omega
       · intro u;simp[mput,e1,h4]
       · simp[mdel,e1,h5]
       · simpa using h6
theorem nodup_len_le:∀(l l':List Int),l.Nodup→(∀x∈l,x∈l')→l.length≤l'.length
 |[],_,_,_=>Nat.zero_le _
 |x::r,l',hn,hs=>by
  obtain⟨h1,h2⟩:=List.nodup_cons.1 hn;have hx:=hs x (.head _);have:=nodup_len_le r (l'.erase x) h2 fun y hy=>(List.mem_erase_of_ne (fun e:y=x=>h1 (by rw[←e];exact hy))).2 (hs y (.tail _ hy))
  have hl:=List.length_erase_of_mem hx;have hp:0<l'.length:=List.length_pos_of_mem hx;simp only[List.length_cons];omega
theorem nodup_idx{β:Type}{l:List β}(hd:l.Nodup){i j:Nat}(hi:i<l.length)(hj:j<l.length)(h:l[i]=l[j]):i=j:=by
 have hp:=List.pairwise_iff_getElem.1 hd;rcases Nat.lt_trichotomy i j with h1|h1|h1
 · exact absurd h (hp i j hi hj h1)
 · exact h1
 · exact absurd h.symm (hp j i hj hi h1)
theorem map_erase{β γ:Type}(g:β→γ):∀(l:List β) (j:Nat),(l.eraseIdx j).map g=(l.map g).eraseIdx j
 |[],_=>rfl
 |_::_,0=>rfl
 |x::r,j+1=>by simp[map_erase g r j]
section ops
variable {q:IntKind} {f:α→Value} {w:World} {b:Nat} {m:List (Int×α)} {t kt et:TypeId}
def told(c:Bool)(z:Value):Option Value→Value
 |some v=>if c then .tuple #[v,.bool true]else v
 |none=>if c then .tuple #[z,.bool false]else z
theorem MapAt.look(h:MapAt q f w b m)(c:Bool)(ht:P.underlying t=some (.map kt et))(hk:P.underlying kt=some (.int q)){z:Value}(hz:(zeroValue et).run P w = .ok z w)(k:Int):
 (Instr.lookup t (.map (some b)) (.int q k) c).run P w = .ok (told c z ((mget k m).map f)) w:=by
 obtain⟨es,clock,hb,hm,hn,hs⟩:=h;have hck:∀em,(Instr.checkKey em 10000 kt (.int q k)).run P w = .ok () w:=fun em=>run_checkKey hk (show IsKey (.int q) (.int q k)from rfl) em 9999
 rcases find_in q f k es.toList m 0 hm with⟨h1,h2⟩|⟨j,v,h1,h2,_⟩
 · rw[mget_none.2 h1]
   simp[Instr.lookup,run_underlying ht,MapKept.run_getObj_map hb,hck,run_findKey hk h2,hz,Result.andThen,told]
 · rw[h1]
   simp[Instr.lookup,run_underlying ht,MapKept.run_getObj_map hb,hck,run_findKey hk h2,Result.andThen,told]
theorem look_none(c:Bool)(ht:P.underlying t=some (.map kt et))(hk:P.underlying kt=some (.int q)){z:Value}(hz:(zeroValue et).run P w = .ok z w)(k:Int):
 (Instr.lookup t (.map none) (.int q k) c).run P w = .ok (told c z none) w:=by
 have hck:∀em,(Instr.checkKey em 10000 kt (.int q k)).run P w = .ok () w:=fun em=>run_checkKey hk (show IsKey (.int q) (.int q k)from rfl) em 9999
 simp[Instr.lookup,run_underlying ht,hck,run_findKey (P:=P) (w:=w) hk (show Instr.findNow (.int q) (.int q k) [] 0=some none from rfl),hz,Result.andThen,told]
structure One(b:Nat)(w w':World):Prop where
 os:w'.os=w.os
 tape:w'.tape=w.tape
 output:w'.output=w.output
 drawn:w'.drawn=w.drawn
 size:w'.heap.size=w.heap.size
 block:∀k,k≠b→w'.heap[k]?=w.heap[k]?
theorem map_modify_key(q:IntKind)(f:α→Value)(k:Int)(u:α)(l:List MapEntry)(m:List (Int×α))(j:Nat)(h:l.map (fun e=>(e.key,e.val))=m.map (fun p=>(Value.int q p.1,f p.2))):
 (l.modify j (fun e=>{ e with key := .int q k,val:=f u })).map (fun e=>(e.key,e.val))=(m.set j (k,u)).map (fun p=>(Value.int q p.1,f p.2)):=by
 induction l generalizing m j with
 |nil=>
  have:m=[]:=List.map_eq_nil_iff.1 h.symm;subst this;simp
 |cons e r ih=>
  cases m with
  |nil=>simp at h
  |cons p m=>
   simp only[List.map_cons,List.cons.injEq]at h;cases j with
   |zero=>simp[h.2]
   |succ j=>simp[ih m j h.2,h.1]
theorem MapAt.store(h:MapAt q f w b m)(ht:P.underlying t=some (.map kt et))(hk:P.underlying kt=some (.int q))(k:Int)(u:α):
 ∃w',(Instr.mapUpdate t (.map (some b)) (.int q k) (f u)).run P w = .ok () w'∧MapAt q f w' b (mput k u m)∧One b w w':=by
 obtain⟨es,clock,hb,hm,hn,hs,hd⟩:=h;have hck:∀em,(Instr.checkKey em 10000 kt (.int q k)).run P w = .ok () w:=fun em=>run_checkKey hk (show IsKey (.int q) (.int q k)from rfl) em 9999
 rcases find_in q f k es.toList m 0 hm with⟨h1,h2⟩|⟨j,v,h1,h2,hj,h3,_,h5⟩
 · refine⟨{ w with heap:=w.heap.setIfInBounds b (.map (es.push ⟨.int q k,f u,clock⟩) (clock+1)) },?_,⟨es.push ⟨.int q k,f u,clock⟩,clock+1,(heap_set hb).1,?_,nodup_mput hn,?_,?_⟩,⟨rfl,rfl,rfl,rfl,by simp,fun i hi=>(heap_set hb).2 i hi⟩⟩
   · simp[Instr.mapUpdate,run_underlying ht,MapKept.run_getObj_map hb,hck,run_findKey hk h2,MapKept.run_setObj_map _ hb,Result.andThen]
   · rw[mput_of_not_mem h1];simp[hm]
   · intro x hx
     simp only[Array.toList_push,List.mem_append,List.mem_singleton]at hx;rcases hx with hx|rfl
     · have:=hs x hx;omega
     · show clock<clock+1;omega
   · rw[Array.toList_push,List.map_append,List.nodup_append]
     refine⟨hd,by simp,fun a ha c hc=>?_⟩;simp only[List.map_cons,List.map_nil,List.mem_singleton]at hc;obtain⟨x,hx,rfl⟩:=List.mem_map.1 ha;have:=hs x hx;omega
 · have hkey:((es[j]?).map (·.key)).getD (.int q k) = .int q k:=by
    rw[←Array.getElem?_toList,h5];rfl
   have hst:(Instr.keyThatStays (.int q k) (.int q k)).run P w = .ok (.int q k) w:=run_keyThatStays (d := .int q) (k := .int q k) (show IsKey (.int q) (.int q k)from rfl);refine⟨{ w with heap:=w.heap.setIfInBounds b (.map (es.modify j fun e=>{ e with key := .int q k,val:=f u }) clock) },?_,⟨_,clock,(heap_set hb).1,?_,nodup_mput hn,?_,?_⟩,⟨rfl,rfl,rfl,rfl,by simp,fun i hi=>(heap_set hb).2 i hi⟩⟩
   · simp only[Nat.zero_add]at h2
     simp[Instr.mapUpdate,run_underlying ht,MapKept.run_getObj_map hb,hck,run_findKey hk h2,hkey,hst,MapKept.run_setObj_map _ hb,Result.andThen]
   · rw[Array.toList_modify,map_modify_key q f k u _ m j hm,h3]
   · intro x hx
     rw[Array.toList_modify]at hx;obtain⟨i,hi⟩:=List.mem_iff_getElem?.1 hx;rw[List.getElem?_modify]at hi;cases hg:es.toList[i]? with
     |none=>rw[hg]at hi;simp at hi
     |some y=>
      have hy:y∈es.toList:=List.mem_of_getElem? hg;rw[hg]at hi;have hi':=Option.some.inj hi;by_cases e:j=i
      · simp only[if_pos e]at hi'
        rw[←hi'];exact hs y hy
      · simp only[if_neg e]at hi'
        rw[←hi'];exact hs y hy
   · have:(es.modify j fun e=>{ e with key := .int q k,val:=f u }).toList.map (·.born)=es.toList.map (·.born):=by
      rw[Array.toList_modify];apply List.ext_getElem?;intro i;rw[List.getElem?_map,List.getElem?_map,List.getElem?_modify];cases es.toList[i]? with
      |none=>rfl
      |some y=>simp only[Option.map_some];split<;>rfl
     rw[this];exact hd
theorem MapAt.drop(h:MapAt q f w b m)(ht:P.underlying t=some (.map kt et))(hk:P.underlying kt=some (.int q))(ty:TypeId)(k:Int):
 ∃w',(Builtin.delete_ #[t,kt] ty #[.map (some b),.int q k]).run P w = .ok (.tuple #[]) w'∧MapAt q f w' b (mdel k m)∧One b w w':=by
 obtain⟨es,clock,hb,hm,hn,hs,hd⟩:=h;have hck:∀em,(Instr.checkKey em 10000 kt (.int q k)).run P w = .ok () w:=fun em=>run_checkKey hk (show IsKey (.int q) (.int q k)from rfl) em 9999
 rcases find_in q f k es.toList m 0 hm with⟨h1,h2⟩|⟨j,v,h1,h2,hj,_,h4,h5⟩
 · refine⟨{ w with heap:=w.heap.setIfInBounds b (.map es clock) },?_,⟨es,clock,(heap_set hb).1,?_,?_,hs,hd⟩,⟨rfl,rfl,rfl,rfl,by simp,fun i hi=>(heap_set hb).2 i hi⟩⟩
   · simp[Builtin.delete_,run_underlying ht,MapKept.run_getObj_map hb,hck,run_findKey hk h2,MapKept.run_setObj_map _ hb,Result.andThen]
   · rw[mdel_of_not_mem h1];exact hm
   · rw[mdel_of_not_mem h1];exact hn
 · have hjs:j<es.size:=by simpa using hj
   have hsub:(es.eraseIdxIfInBounds j).toList=es.toList.eraseIdx j:=by
    unfold Array.eraseIdxIfInBounds;rw[dif_pos hjs];simp
   refine⟨{ w with heap:=w.heap.setIfInBounds b (.map (es.eraseIdxIfInBounds j) clock) },?_,⟨_,clock,(heap_set hb).1,?_,nodup_mdel hn,?_,?_⟩,⟨rfl,rfl,rfl,rfl,by simp,fun i hi=>(heap_set hb).2 i hi⟩⟩
   · simp only[Nat.zero_add]at h2
     simp[Builtin.delete_,run_underlying ht,MapKept.run_getObj_map hb,hck,run_findKey hk h2,MapKept.run_setObj_map _ hb,Result.andThen]
   · rw[hsub,←h4,map_erase,map_erase,hm]
   · intro x hx
     rw[hsub]at hx;exact hs x ((List.eraseIdx_sublist _ _).subset hx)
   · rw[hsub]
     exact((List.eraseIdx_sublist _ _).map _).nodup hd
theorem MapAt.len(h:MapAt q f w b m)(ht:P.underlying t=some (.map kt et))(ty:TypeId):(Builtin.len_ #[t] ty #[.map (some b)]).run P w = .ok (.int .i64 (m.length:Int)) w:=by
 obtain⟨es,clock,hb,hm,_⟩:=h;have hl:es.size=m.length:=by simpa using congrArg List.length hm
 simp[Builtin.len_,run_underlying ht,MapKept.run_getObj_map hb,Result.andThen,goInt,hl]
theorem len_none(ht:P.underlying t=some (.map kt et))(ty:TypeId):(Builtin.len_ #[t] ty #[.map none]).run P w = .ok (.int .i64 0) w:=by
 simp[Builtin.len_,run_underlying ht,Result.andThen,goInt]
def Ranges(q:IntKind)(f:α→Value)(w:World)(bo:Option Nat)(r:Nat)(m done:List (Int×α)):Prop:=
 (bo=none∧m=[]∧done=[]∧∃s c,w.heap[r]?=some (.mapIter none s #[] c)) ∨
 ∃b es clock since seen c0,bo=some b∧w.heap[b]?=some (.map es clock)∧es.toList.map (fun e=>(e.key,e.val))=m.map (fun p=>(Value.int q p.1,f p.2))∧(keys m).Nodup∧(∀x∈es.toList,x.born<clock)∧(es.toList.map (·.born)).Nodup ∧
  w.heap[r]?=some (.mapIter (some b) since seen c0)∧(∀x∈es.toList,x.born<since)∧since≤c0∧since≤clock∧(keys done).Nodup∧(∀p∈done,p∈m)∧seen.size=done.length ∧
  (∀(i:Nat) (e:MapEntry) (p:Int×α),es.toList[i]?=some e→m[i]?=some p→(seen.contains e.born=true↔p∈done))
theorem Ranges.lt{bo:Option Nat}{r:Nat}{done:List (Int×α)}(h:Ranges q f w bo r m done):r<w.heap.size:=by
 rcases h with⟨_,_,_,s,c,h⟩|⟨_,_,_,_,_,_,_,_,_,_,_,_,h,_⟩<;>exact(Array.getElem?_eq_some_iff.1 h).1
def seenAt(w:World)(r:Nat):Nat:=match w.heap[r]? with|some (.mapIter _ _ seen _)=>seen.size|_=>0
theorem Ranges.seen{bo:Option Nat}{r:Nat}{done:List (Int×α)}(h:Ranges q f w bo r m done):seenAt w r=done.length∧done.length≤m.length∧(keys done).Nodup∧(∀p∈done,p∈m):=by
 rcases h with⟨_,rfl,rfl,s,c,h⟩|⟨b,es,clock,since,seen,c0,_,_,_,hn,_,_,h,_,_,_,hdn,hdm,hsl,_⟩
 · simp[seenAt,h,keys]
 · refine⟨by simp only[seenAt,h];exact hsl,?_,hdn,hdm⟩
   have hsub:∀k∈keys done,k∈keys m:=fun k hk=>by
    obtain⟨p,hp,rfl⟩:=List.mem_map.1 hk;exact List.mem_map.2 ⟨p,hdm p hp,rfl⟩
   have:=nodup_len_le _ _ hdn hsub;simpa[keys]using this
theorem Ranges.ne{bo:Option Nat}{r:Nat}{done:List (Int×α)}(h:Ranges q f w bo r m done):bo≠some r:=by
 rcases h with⟨h,_⟩|⟨b,_,_,_,_,_,rfl,hb,_,_,_,_,hr,_⟩
 · rw[h];exact fun e=>by cases e
 · intro e;cases e;rw[hb]at hr;cases hr
theorem Ranges.same{w':World}{bo:Option Nat}{r:Nat}{done:List (Int×α)}(h:Ranges q f w bo r m done)(hr:w'.heap[r]?=w.heap[r]?)(hb:∀b,bo=some b→w'.heap[b]?=w.heap[b]?):Ranges q f w' bo r m done:=by
 rcases h with⟨h1,h2,h3,s,c,h⟩|⟨b,es,clock,since,seen,c0,rfl,h1,h2,h3,h4,h5,h6,h7⟩
 · exact .inl ⟨h1,h2,h3,s,c,hr.trans h⟩
 · exact .inr ⟨b,es,clock,since,seen,c0,rfl,(hb b rfl).trans h1,h2,h3,h4,h5,hr.trans h6,h7⟩
theorem MapAt.range(h:MapAt q f w b m)(ht:P.underlying t=some (.map kt et)):
 ∃o,(Instr.range t (.map (some b))).run P w = .ok (.pointer (some ⟨w.heap.size,0,none⟩)) (w.alloc o)∧Ranges q f (w.alloc o) (some b) w.heap.size m []:=by
 have hlt:=h.lt;obtain⟨es,clock,hb,hm,hn,hs,hd⟩:=h;refine⟨_,run_range_map w t kt et b es clock ht hb,.inr ⟨b,es,clock,clock,#[],clock,rfl,((MapKept.heap_alloc w _).2 b hlt).trans hb,hm,hn,hs,hd,(MapKept.heap_alloc w _).1,hs,Nat.le_refl _,Nat.le_refl _,by simp[keys],by simp,rfl,?_⟩⟩;intro i e p _ _;simp
theorem range_none(f:α→Value)(ht:P.underlying t=some (.map kt et)):
 ∃o,(Instr.range t (.map none)).run P w = .ok (.pointer (some ⟨w.heap.size,0,none⟩)) (w.alloc o)∧Ranges (α:=α) q f (w.alloc o) none w.heap.size [] []:=by
 refine⟨.mapIter none 0 #[] 0,?_,.inl ⟨rfl,rfl,rfl,0,0,(MapKept.heap_alloc w _).1⟩⟩;simp[Instr.range,run_underlying ht,Result.andThen]
theorem Ranges.next{bo:Option Nat}{r:Nat}{done:List (Int×α)}(h:Ranges q f w bo r m done)(ty:TypeId):
 ((∀p∈m,p∈done)∧(Instr.next (.pointer (some ⟨r,0,none⟩)) false ty).run P w = .ok (.tuple #[.bool false]) w) ∨
 ∃p w',p∈m∧p.1∉keys done∧(Instr.next (.pointer (some ⟨r,0,none⟩)) false ty).run P w = .ok (.tuple #[.bool true,.int q p.1,f p.2]) w'∧Ranges q f w' bo r m (done++[p]) ∧
  w'.os=w.os∧w'.tape=w.tape∧w'.output=w.output∧w'.heap.size=w.heap.size∧(∀k,k≠r→w'.heap[k]?=w.heap[k]?)∧(Instr.entry (.pointer (some ⟨r,0,none⟩))).run P w' = .ok (.tuple #[.int q p.1,f p.2]) w':=by
 have hne:=h.ne;rcases h with⟨h1,rfl,h3,s,c,hr⟩|⟨b,es,clock,since,seen,c0,rfl,hb,hm,hn,hs,hd,hr,hold,hsc,hsk,hdn,hdm,hsl,hse⟩
 · refine .inl ⟨by simp,?_⟩
   simp[Instr.next,getObj,Sem.run,hr,Result.andThen]
 · have hlen:es.toList.length=m.length:=by simpa using congrArg List.length hm
   have hat:∀(i:Nat) (e:MapEntry),es.toList[i]?=some e→∃p:Int×α,m[i]?=some p∧e.key=Value.int q p.1∧e.val=f p.2:=by
    intro i e he;(have hi:i<m.length:=by rw[←hlen];exact(List.getElem?_eq_some_iff.1 he).1);have h2:=congrArg (·[i]?) hm;simp only[List.getElem?_map,he,List.getElem?_eq_getElem hi,Option.map_some,Option.some.injEq,Prod.mk.injEq]at h2;exact⟨m[i],List.getElem?_eq_getElem hi,h2.1,h2.2⟩
   rcases run_next_at (P:=P) w ty r b since c0 seen es clock hr hb hold hsc with⟨h0,hrun⟩|⟨e,he,w1,hal,hrun⟩
   · refine .inl ⟨fun p hp=>?_,hrun⟩
     obtain⟨i,hi⟩:=List.mem_iff_getElem?.1 hp;(have hil:i<es.toList.length:=by rw[hlen];exact(List.getElem?_eq_some_iff.1 hi).1);exact(hse i es.toList[i] p (List.getElem?_eq_getElem hil) hi).1 (all_seen es seen h0 _ (List.getElem_mem hil))
   · obtain⟨hem,hes⟩:=mem_left he
     obtain⟨i,hi⟩:=List.mem_iff_getElem?.1 hem;obtain⟨p,hp,hk,hv⟩:=hat i e hi;have hpm:p∈m:=List.mem_of_getElem? hp;have hpd:p∉done:=fun hpd=>by
      have:=(hse i e p hi hp).2 hpd;rw[hes]at this;cases this
     (have hr1:w1.heap[r]?=some (.mapIter (some b) since seen c0):=by rcases hal with rfl|rfl<;>exact hr);(have hb1:w1.heap[b]?=some (.map es clock):=by rcases hal with rfl|rfl<;>exact hb);have hset:=heap_set (o' := .mapIter (some b) since (seen.push e.born) clock) hr1;(have hbr:b≠r:=fun e1=>hne (by rw[e1]));have hb':(ChangeMaps.setBlock w1 r (.mapIter (some b) since (seen.push e.born) clock)).heap[b]?=some (.map es clock):=(hset.2 b hbr).trans hb1;refine .inr ⟨p,_,hpm,fun hkd=>?_,by rw[hrun,hk,hv],.inr ⟨b,es,clock,since,seen.push e.born,clock,rfl,hb',hm,hn,hs,hd,hset.1,hold,hsk,hsk,?_,?_,by simp[hsl],?_⟩,?_,?_,?_,?_,?_,?_⟩
     · obtain⟨p',hp',e'⟩:=List.mem_map.1 hkd
       have h1:=mget_of_mem hn (hdm p' hp');rw[e']at h1;have h2:=mget_of_mem hn hpm;rw[h1]at h2;have:p'=p:=Prod.ext e' (Option.some.inj h2);exact hpd (this▸hp')
     · rw[keys,List.map_append,List.nodup_append]
       refine⟨hdn,by simp,fun x hx y hy=>?_⟩;simp only[List.map_cons,List.map_nil,List.mem_singleton]at hy;subst hy;intro e1;subst e1;obtain⟨p',hp',e'⟩:=List.mem_map.1 hx;have h1:=mget_of_mem hn (hdm p' hp');rw[e']at h1;have h2:=mget_of_mem hn hpm;rw[h1]at h2;have:p'=p:=Prod.ext e' (Option.some.inj h2);exact hpd (this▸hp')
     · intro x hx
       rcases List.mem_append.1 hx with hx|hx
       · exact hdm x hx
       · rw[List.mem_singleton.1 hx];exact hpm
     · intro j e2 p2 hj hj2
       rw[contains_push,Bool.or_eq_true,List.mem_append,List.mem_singleton,hse j e2 p2 hj hj2];refine or_congr Iff.rfl ⟨fun h=>?_,fun h=>?_⟩
       · have hb2:e2.born=e.born:=by simpa using h
         have hij:j=i:=by
          have hjl:=(List.getElem?_eq_some_iff.1 hj);have hil:=(List.getElem?_eq_some_iff.1 hi);obtain⟨hjl,hje⟩:=hjl;obtain⟨hil,hie⟩:=hil;have hdj:(es.toList.map (·.born))[j]'(by simpa using hjl)=(es.toList.map (·.born))[i]'(by simpa using hil):=by
           simp only[List.getElem_map,hje,hie,hb2]
          exact nodup_idx hd _ _ hdj
         subst hij;rw[hp]at hj2;exact(Option.some.inj hj2).symm
       · subst h
         have hij:j=i:=by
          obtain⟨hjl,hje⟩:=List.getElem?_eq_some_iff.1 hj2;obtain⟨hil,hie⟩:=List.getElem?_eq_some_iff.1 hp;have hdj:(keys m)[j]'(by simpa[keys]using hjl)=(keys m)[i]'(by simpa[keys]using hil):=by
           simp only[keys,List.getElem_map,hje,hie]
          exact nodup_idx hn _ _ hdj
         subst hij;rw[hi]at hj;rw[Option.some.inj hj];simp
     · rcases hal with rfl|rfl<;>rfl
     · rcases hal with rfl|rfl<;>rfl
     · rcases hal with rfl|rfl<;>rfl
     · rcases hal with rfl|rfl<;>simp[ChangeMaps.setBlock]
     · rcases hal with rfl|rfl<;>exact fun k hk2=>hset.2 k hk2
     · rw[←hk,←hv]
       exact run_entry_at _ r b since seen es clock e hset.1 hb' hem hd
structure OneD(b:Nat)(w w':World):Prop where
 os:w'.os=w.os
 tape:w'.tape=w.tape
 output:w'.output=w.output
 size:w'.heap.size=w.heap.size
 block:∀k,k≠b→w'.heap[k]?=w.heap[k]?
theorem One.d{b:Nat}{w w':World}(h:One b w w'):OneD b w w':=⟨h.os,h.tape,h.output,h.size,h.block⟩
variable {ops:Array Oper} {rest:List Oper} {o:Oper} {a:Act} {Q:Exit→Act→World→Prop}
theorem wpList_range_at{mv:Value}{bo:Option Nat}(h:∃ob,(Instr.range t mv).run P w = .ok (.pointer (some ⟨w.heap.size,0,none⟩)) (w.alloc ob)∧Ranges q f (w.alloc ob) bo w.heap.size m [])(hg:o.guard=none)(x:Operand)(hop:o.op=Op.range t x)(hm:a.eval x=mv)
 (hK:∀ob,Ranges q f (w.alloc ob) bo w.heap.size m []→wpList P ops Q rest (a.put o.dst (.pointer (some ⟨w.heap.size,0,none⟩))) (w.alloc ob)):wpList P ops Q (o::rest) a w:=by
 refine wpList_plain hg fun K' hK'=>?_
 obtain⟨ob,hrun,hr⟩:=h;unfold Oper.wp;simp only[execOp,hop,hm,Sem.run_bind,hrun,Result.andThen_ok,Sem.run_pure,Oper.upon_value];exact hK' _ _ (hK ob hr)
def AllIn(m done:List (Int×α)):Prop:=∀p∈m,p∈done
theorem wpList_next_at{bo:Option Nat}{r:Nat}{done:List (Int×α)}(h:Ranges q f w bo r m done)(hg:o.guard=none)(it:Operand)(hop:o.op=Op.next it false)(hit:a.eval it = .pointer (some ⟨r,0,none⟩))
 (hDone:AllIn m done→wpList P ops Q rest (a.put o.dst (.tuple #[.bool false])) w)
 (hMore:∀k v w',(k,v)∈m→k∉keys done→Ranges q f w' bo r m (done++[(k,v)])→OneD r w w'→(Instr.entry (.pointer (some ⟨r,0,none⟩))).run P w' = .ok (.tuple #[.int q k,f v]) w'→wpList P ops Q rest (a.put o.dst (.tuple #[.bool true,.int q k,f v])) w'):wpList P ops Q (o::rest) a w:=by
 refine wpList_plain hg fun K' hK'=>?_
 unfold Oper.wp;rcases h.next (P:=P) o.type with⟨hd,hrun⟩|⟨p,w',hp,hk,hrun,hr,h1,h2,h3,h4,h5,hen⟩
 · simp only[execOp,hop,hit,Sem.run_bind,hrun,Result.andThen_ok,Sem.run_pure,Oper.upon_value]
   exact hK' _ _ (hDone hd)
 · simp only[execOp,hop,hit,Sem.run_bind,hrun,Result.andThen_ok,Sem.run_pure,Oper.upon_value]
   exact hK' _ _ (hMore p.1 p.2 w' hp hk hr ⟨h1,h2,h3,h4,h5⟩ hen)
end ops
end Go.Proofs.YthecngkdmnadoaaGreat

namespace Go.Proofs.YthecngkdmnadoaaGreat
open Go.RowKit
set_option maxRecDepth 100000
theorem info_ver:(Tryz.prog.info? 93).map (fun i=>(i.zero,i.size,i.bytes))=some (some (.agg (Array.replicate 64 (.int .u8 0))),64,64):=by kernel_rfl
def zver:List Nat:=List.replicate 64 0
def verC(v:List Nat):Array Value:=(v.map bv).toArray
def verV(v:List Nat):Value := .agg (verC v)
theorem zver_len:zver.length=64:=by simp[zver]
theorem verC_size(v:List Nat):(verC v).size=v.length:=by simp[verC]
theorem verC_zero:verC zver=Array.replicate 64 (.int .u8 0):=by
 rw[verC,zver,List.map_replicate,List.toArray_replicate];rfl
def splice(C:Array Value):Nat→List Value→Array Value
 |_,[]=>C
 |o,v::r=>splice (C.setIfInBounds o v) (o+1) r
theorem splice_size(vs:List Value):∀(C:Array Value) (o:Nat),(splice C o vs).size=C.size:=by
 induction vs with
 |nil=>intro C o;rfl
 |cons v r ih=>intro C o;rw[splice,ih];simp
theorem splice_get(vs:List Value):∀(C:Array Value) (o i:Nat),i<C.size→(splice C o vs)[i]?=if o≤i∧i<o+vs.length then vs[i-o]? else C[i]?:=by
 induction vs with
 |nil=>intro C o i hi;rw[splice,if_neg];simp
 |cons v r ih=>
  intro C o i hi;rw[splice,ih _ _ _ (by simpa using hi)];by_cases h1:o+1≤i∧i<o+1+r.length
  · rw[if_pos h1,if_pos (by simp;omega)]
    (have e:i-o=(i-(o+1))+1:=by omega);rw[e,List.getElem?_cons_succ]
  · rw[if_neg h1]
    by_cases h2:i=o
    · subst h2
      rw[if_pos (by simp)];simp[hi]
    · rw[if_neg (by simp;omega),Array.getElem?_setIfInBounds_ne (by omega)]
theorem splice_full(C:Array Value)(vs:List Value)(h:vs.length=C.size):splice C 0 vs=vs.toArray:=by
 apply Array.ext_getElem?;intro i;by_cases hi:i<C.size
 · rw[splice_get _ _ _ _ hi,if_pos (by omega)];simp
 · rw[Array.getElem?_eq_none (by rw[splice_size];omega),Array.getElem?_eq_none (by simp;omega)]
theorem setCell_new(w:World)(C:Array Value)(t:TypeId)(f:Nat×Nat)(o:Nat)(v:Value):(w.alloc (.cells C t f)).setCell ⟨w.heap.size,o,none⟩ v=w.alloc (.cells (C.setIfInBounds o v) t f):=by
 have e:(w.heap.push (.cells C t f)).modify w.heap.size (fun | .cells c elem frozen => .cells (c.setIfInBounds o v) elem frozen|x=>x)=w.heap.push (.cells (C.setIfInBounds o v) t f):=by
  apply Array.ext_getElem?;intro i;rw[Array.getElem?_modify,Array.getElem?_push,Array.getElem?_push];by_cases hi:i=w.heap.size
  · subst hi;simp
  · rw[if_neg (fun h=>hi h.symm),if_neg hi,if_neg hi]
 simp only[World.setCell,World.alloc,Option.isSome_none,Bool.false_eq_true,if_false];rw[World.mk.injEq];exact⟨e,rfl,rfl,rfl,rfl⟩
theorem setCells_new(w:World)(t:TypeId)(f:Nat×Nat)(vs:List Value):∀(C:Array Value) (o:Nat),(w.alloc (.cells C t f)).setCells w.heap.size o vs=w.alloc (.cells (splice C o vs) t f):=by
 induction vs with
 |nil=>intro C o;rfl
 |cons v r ih=>intro C o;rw[World.setCells,setCell_new,ih,splice]
theorem new_there(w:World)(C:Array Value)(t:TypeId)(n:Nat)(h:n≤C.size):(w.alloc (.cells C t)).there w.heap.size 0 n:=by
 intro j hj;have hb:=(MapKept.heap_alloc w (.cells C t)).1;simp only[World.cell?,World.frozen?,hb,Nat.zero_add];constructor
 · simp;omega
 · simp
theorem verV_zero:verV zver = .agg (Array.replicate 64 (.int .u8 0)):=by rw[verV,verC_zero]
theorem verC_one(v:List Nat):(verC v).all (·.oneCell')=true:=by
 refine all_oneCell_toArray fun x hx=>?_
 obtain⟨y,_,rfl⟩:=List.mem_map.1 hx;rfl
theorem zero_ver(w:World):(zeroValue 93).run Tryz.prog w = .ok (verV zver) w:=by
 obtain⟨i,hi,hz,hs,hb⟩:=info_parts info_ver;rw[verV_zero];simp[zeroValue,typeInfo,hi,hz,Result.andThen]
theorem run_alloc_ver(w:World)(x:Value):(Instr.alloc 93 true x).run Tryz.prog w = .ok (.pointer (some ⟨w.heap.size,0,none⟩)) (w.alloc (.cells (verC zver) 93)):=by
 simp only[Instr.alloc,Sem.run_bind,zero_ver,Result.andThen,newVar,newRow];rfl
theorem run_box_ver(w:World)(v:List Nat):(Instr.box 93 (verV v)).run Tryz.prog w = .ok (.pointer (some ⟨w.heap.size,0,none⟩)) (w.alloc (.cells (verC v) 93)):=by
 simp only[Instr.box,Sem.run_bind,newVar,newRow];rfl
theorem run_store_ver(w:World)(v:List Nat)(hv:v.length=64):(Instr.storeAt 93 (.pointer (some ⟨w.heap.size,0,none⟩)) (verV v)).run Tryz.prog (w.alloc (.cells (verC zver) 93)) = .ok () (w.alloc (.cells (verC v) 93)):=by
 obtain⟨i,hi,hz,hs,hb⟩:=info_parts info_ver;have hsz:(verC v).size=64:=by rw[verC_size,hv]
 have hz64:(verC zver).size=64:=by rw[verC_size,zver_len]
 rw[verV,run_storeAt_mid _ _ _ _ (verC v) (by rw[hsz,←hz64];exact new_there _ _ _ _ (Nat.le_refl _)) (by rw[hi,hsz];simp[hs]) (verC_one v),setCells_new,splice_full _ _ (by rw[Array.length_toList,hsz,hz64])]
end Go.Proofs.YthecngkdmnadoaaGreat
