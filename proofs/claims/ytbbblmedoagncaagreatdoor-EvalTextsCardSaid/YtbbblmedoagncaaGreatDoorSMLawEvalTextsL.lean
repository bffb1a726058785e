/- LawEvalTextsL -/
import Derived.Test.YtbbblmedoagncaaGreatDoorSMLawEvalTextsW
import Derived.Test.YtbbblmedoagncaaGreatDoorSHD
namespace Go.Proofs.YtbbblmedoagncaaGreatDoor
section
open _root_.Go.Proofs.Tryz
set_option maxRecDepth 1000000
open Go.ChangeShapes Go.WideShapes Go.ChangeAt Go.RowKit Go.Lib Go.Shelf
theorem evaltexts_lifted (os:Os) (started:os.Started) (H:Type) (enc:TypeId × Value→H) :
  ReturnsInHanded {} Tryz.checked os 4 .any (fun w args=>(Rows.evalTextsSpec.pre enc prog Tryz.f4 [] false w args∧laidMetH prog tabsLaid8 w)∧sizedMet enc prog Tryz.f4 (OpenSpec.ofChange Rows.evalTextsSpec) false w args)
   (Rows.evalTextsSpec.post enc prog Tryz.f4 false true false false):=by
 refine returnsInHanded_of_change_and (C:=Tryz.checked) (X:=fun w _=>laidMetH prog tabsLaid8 w) (fun _ _ _ hh h=>h.of_heap hh) own started (by kernel_rfl) func4
  (ChangeSpec.witness_shaped (enc:=enc) (C:=Tryz.checked) (os:=os) (X:=fun w _=>laidMetH prog tabsLaid8 w) false (World.laidAll prog os tabsLaid8) #[.string ⟨#[]⟩,.slice none 0 0,.slice none 0 0] 8 (World.laidAll_os _ _ _)
   (World.shaped_of_ZipB (by kernel_rfl) (by kernel_rfl)) (by kernel_rfl) (by kernel_rfl) (by kernel_rfl) (start_met8 os _)) ?_
 intro W base args ds gs before hval0 hW _ hsz0 hL _
 have hsz:=hsz0
 have hval:∀ (j:Nat) t v,Tryz.f4.params[j]?=some t→args[j]?=some v→Value.okWide prog W .any base t v:=hval0
 have hW':=hW
 obtain⟨p,q,hA0,hV,rfl,hNF,_⟩:=hW
 have hA:DataW.TrodAll enc prog W 0 (fun _=>true) true Tryz.f4.params.toList args.toList ds p:=hA0
 rw[Tryz.params4] at hA hval
 obtain⟨v0,v1,v2,d0,d1,d2,p0,p1,p2,rfl,rfl,rfl,h0,h1,h2⟩:=trodAll_three hA
 obtain⟨rfl,rfl⟩:=trodVars_none hV
 obtain⟨x0,rfl,rfl,rfl,wx0⟩:=Go.ChangeMaps.open_string underlying9 (hval 0 9 v0 rfl rfl) h0
 have rx0:x0.size≤9223372036854775807:=by have:=wx0;unfold maxLen at this;omega
 have hlt1:∀ x ∈ p1,x.block<W.heap.size:=fun x hx=>hW'.lt x (by simp[hx])
 have h1k:=h1
 obtain⟨A1,L1,X1,c1,rfl,lc1,B1,D1,Q1⟩:=open_texts underlying30 underlying9 (by kernel_rfl) (hval 1 30 v1 rfl rfl) h1
 have cm1:L1.length≤140737488351232:=by
  rcases D1 with ⟨rfl,hl⟩ | ⟨rfl,hc⟩
  ·rw[hl];exact Nat.zero_le _
  ·have:=sized_slice hsz (j:=1) (t:=30) (e:=9) rfl rfl underlying30
   rw[show Tryz.checked.prog.bytesOf 9=16 by kernel_rfl] at this
   simp only[strs,List.length_map] at this
   unfold reachBytes at this;omega
 have hlt2:∀ x ∈ p2,x.block<W.heap.size:=fun x hx=>hW'.lt x (by simp[hx])
 have h2k:=h2
 obtain⟨A2,L2,c2,rfl,lc2,cm2,B2,N2,Q2⟩:=open_vals (hval 2 36 v2 rfl rfl) h2 (fun k hk=>by
  have:=List.all_eq_true.1 hsz _ (DataW.weights_mem_each (j:=2) (t:=36) rfl rfl k hk)
  simpa using this)
 simp only[List.append_nil] at hW'
 refine (evaltexts_walk x0 A1 L1 c1 A2 L2 c2 W rx0 lc1 cm1 B1 Q1 lc2 cm2 B2 N2 Q2 (envP_of_laid hL)).mono fun e W' ⟨he,hb⟩=>?_
 subst he
 exact⟨_,rfl,_,_,_,[],_,[],hW',trodAll_mk1 (shut_bool underlying4 _),trodAll_mk3 (Go.ChangeMaps.shut_string underlying9 wx0) (Below.trod laidOut (by kernel_rfl) (of_decide_eq_true (by kernel_rfl)) h1k hb hlt1) (Below.trod laidOut (by kernel_rfl) (of_decide_eq_true (by kernel_rfl)) h2k hb hlt2),rfl,hb.frame _,fun h=>by cases h⟩
end
end Go.Proofs.YtbbblmedoagncaaGreatDoor
