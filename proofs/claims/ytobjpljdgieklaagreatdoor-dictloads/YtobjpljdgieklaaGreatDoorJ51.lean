import Derived.Test.YtobjpljdgieklaaGreatDoorJ49
import Derived.Test.YtobjpljdgieklaaGreatDoorFRState
set_option maxRecDepth 100000
set_option maxHeartbeats 8000000
namespace Go.Proofs.YtobjpljdgieklaaGreatDoor
section
open Go.RowKit Go.Shelf Go.Lib Nums Fm Pk Pm Fz Ed Lv
namespace Di
end Di
end
section
open Go.RowKit Nums Fm Pm
theorem zTs(w:World)(v:Value)(l:List Pr)(hC:zAl l=0)(hl:l≠[])(hr:RR w.heap.size w v (ents l)):zLi v l w:=by
 have hG:=zCd hC hl;have hD:=zB2 hC;obtain⟨e1,e2⟩:=zL9 25 [] [] (ents l) Inv.nil hG;have hM:zAg l=(least (ents l),(stF 25 [] (ents l)).1):=by rw[zAg,if_pos ⟨hC,hl⟩]
 obtain⟨D,hI,hS⟩:=zU6 hC;rw[hM]at hI;have hDD:(refF 25 [] [] (ents l)).1=D:=zK0 e2 hI;have hsm:=zSf (l:=l);rw[hM]at hsm;have hin:StIn (fun _=>False) 25 w.heap.size w.heap.size w (.slice none 0 0) (.slice none 0 0) v [] [] (ents l):=by
  refine⟨Inv.nil,hG,AllOwn.nil _ _ _,⟨⟨[],GOwn.nil _ _ _ _,rfl,fun i s hi=>by simp at hi⟩,fun k h=>h.elim⟩,hr,Nat.le_refl _,Nat.le_refl _,?_,fun R hR=>?_,fun e he=>?_⟩
  · rw[hDD,hI.len]
    simp only at hsm ⊢;omega
  · rw[hDD]at hR
    obtain⟨h0,hs⟩:=(hS R).1 hR;obtain⟨xs,n,hx,k,hk,rfl⟩:=zJ7 hs hD.rise h0;have hb:=zEv (xs.take k) (ents l);have hel:=zBb l;have hl4:=hD.len;refine⟨?_,fun e he=>?_⟩
    · have:(zAd (zIg (xs.take k) (ents l))).length=(zIg (xs.take k) (ents l)).length:=by simp[zAd,zAh]
      omega
    · obtain⟨y,hy,rfl⟩:=List.mem_map.1 he
      obtain⟨z,hz,_,h3⟩:=zEu _ _ _ hy;have:=hD.en.ln z hz;simp only;omega
  · have:=hD.en.wt e he
    omega
 refine(zGs 25 _ _ _ _ _ _ _ _ _ _ hin).mono ?_;rintro e w' ⟨A',vR',vS',rfl,hK⟩;obtain⟨ra,rc,h1⟩:=hK.rests.shape;obtain⟨sa,sc,h2⟩:=hK.states.shape;have h3:(refF 25 [] [] (ents l)).2.1=(stF 25 [] (ents l)).1:=by rw[e1]
 have hb:Below w.heap.size w w':=⟨hK.upd.os,hK.upd.tape,hK.upd.output,hK.upd.size,fun j hj=>hK.upd.block j hj (fun h=>by rcases h with h|h<;>cases h)⟩;have hrow:=hK.states.row;rw[h3]at hrow;subst h1;subst h2;exact⟨_,_,_,_,_,_,_,rfl,hb,hrow⟩
theorem zMe(w:World)(v:Value)(l:List Pr)(h:PRow w v l)(hsm:Sm l):
 Calls Tryz.prog 18 #[v] w fun e w'=>∃base vs b,e = .returned (.tuple #[.agg #[.int .i64 base,vs],.int .i64 (zAl l)])∧BuildSays w w' l base vs b:=
 zMd w v l h hsm fun hC w1 hb1=>zOe w1 v l (h.below hb1) hC fun hl w2 v2 _ hr=>zTs w2 v2 l hC hl hr
end
