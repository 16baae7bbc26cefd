import Derived.Test.YtkdhdehobdfakaaGreatDoorFRState
import Derived.Test.YtkdhdehobdfakaaGreatDoorJ39
namespace Go.Proofs.YtkdhdehobdfakaaGreatDoor
open Go.RowKit Nums Fm Pm
set_option maxRecDepth 100000
theorem zUq(w:World)(v:Value)(l:List Pr)(hC:zAl l=0)(hl:l≠[])(hr:RR w.heap.size w v (ents l)):zL3 v l w:=by
 have hG:=zCd hC hl;have hD:=zB0 hC;obtain⟨e1,e2⟩:=zMx 25 [] [] (ents l) Inv.nil hG;have hM:zAf l=(least (ents l),(stF 25 [] (ents l)).1):=by rw[zAf,if_pos ⟨hC,hl⟩]
 obtain⟨D,hI,hS⟩:=zV7 hC;rw[hM]at hI;have hDD:(refF 25 [] [] (ents l)).1=D:=zLk e2 hI;have hsm:=zS8 (l:=l);rw[hM]at hsm;have hin:StIn (fun _=>False) 25 w.heap.size w.heap.size w (.slice none 0 0) (.slice none 0 0) v [] [] (ents l):=by
  refine⟨Inv.nil,hG,AllOwn.nil _ _ _,⟨⟨[],GOwn.nil _ _ _ _,rfl,fun i s hi=>by simp at hi⟩,fun k h=>h.elim⟩,hr,Nat.le_refl _,Nat.le_refl _,?_,fun R hR=>?_,fun e he=>?_⟩
  · rw[hDD,hI.len]
    simp only at hsm ⊢;omega
  · rw[hDD]at hR
    obtain⟨h0,hs⟩:=(hS R).1 hR;obtain⟨xs,n,hx,k,hk,rfl⟩:=zKq hs hD.rise h0;have hb:=zE0 (xs.take k) (ents l);have hel:=zBa l;have hl4:=hD.len;refine⟨?_,fun e he=>?_⟩
    · have:(zAd (zIu (xs.take k) (ents l))).length=(zIu (xs.take k) (ents l)).length:=by simp[zAd,zAi]
      omega
    · obtain⟨y,hy,rfl⟩:=List.mem_map.1 he
      obtain⟨z,hz,_,h3⟩:=zEz _ _ _ hy;have:=hD.en.ln z hz;simp only;omega
  · have:=hD.en.wt e he
    omega
 refine(zG3 25 _ _ _ _ _ _ _ _ _ _ hin).mono ?_;rintro e w' ⟨A',vR',vS',rfl,hK⟩;obtain⟨ra,rc,h1⟩:=hK.rests.shape;obtain⟨sa,sc,h2⟩:=hK.states.shape;have h3:(refF 25 [] [] (ents l)).2.1=(stF 25 [] (ents l)).1:=by rw[e1]
 have hb:Below w.heap.size w w':=⟨hK.upd.os,hK.upd.tape,hK.upd.output,hK.upd.size,fun j hj=>hK.upd.block j hj (fun h=>by rcases h with h|h<;>cases h)⟩;have hrow:=hK.states.row;rw[h3]at hrow;subst h1;subst h2;exact⟨_,_,_,_,_,_,_,rfl,hb,hrow⟩
