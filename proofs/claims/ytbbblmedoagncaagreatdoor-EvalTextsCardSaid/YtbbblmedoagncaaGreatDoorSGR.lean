/- VFrame, ParVF -/
import Derived.Test.YtbbblmedoagncaaGreatDoorSGB
import Derived.Test.YtbbblmedoagncaaGreatDoorTie
import Derived.Test.YtbbblmedoagncaaGreatDoorCards
import Derived.Test.YtbbblmedoagncaaGreatDoorSGQ
import Derived.ProofKit
import Derived.PinnedBridge
import Derived.Lib.LaidU8T
import Derived.Lib.LaidIn
import Derived.Lib.LaidTab
import Derived.Lib.SmallJoins
import Derived.Lay
import Derived.LaidOnce
import Derived.SevenTiedAt
import Derived.OpenShut
import Derived.Stop.LaidErr
namespace Go.Proofs.YtbbblmedoagncaaGreatDoor
section
open _root_.Go.Proofs.Tryz
set_option maxRecDepth 100000
open Go.ChangeShapes Go.WideShapes Go.ChangeAt Go.RowKit Go.Lib Go.Shelf
theorem accept_eq:(Rows.laid_unicode_utf8_acceptRanges:DataW Unit)=acceptData:=by kernel_rfl
theorem u8types:U8Types prog Tryz.renB:={ more196 with }
theorem tabs_of (l:List (String × DataW Unit)) {W:World} (h:laidMet prog l W) (h1:("unicode/utf8.first",Rows.laid_unicode_utf8_first) ∈ l) (h2:("unicode/utf8.acceptRanges",(Rows.laid_unicode_utf8_acceptRanges:DataW Unit)) ∈ l):Tabs W :=
 utf8Tabs_of_readsT u8types ⟨by kernel_rfl,by kernel_rfl,by kernel_rfl,by kernel_rfl,by kernel_rfl,by kernel_rfl,by kernel_rfl⟩ (Pinned.utf8First_eq ▸ Lib.laidMet.reads h h1) (accept_eq ▸ Lib.laidMet.reads h h2)
theorem Errs.of (l:List (String × DataW Unit)) {W:World} (h:laidMet prog (("strconv.ErrRange",Rows.laid_strconv_ErrRange) :: ("strconv.ErrSyntax",Rows.laid_strconv_ErrSyntax) :: l) W):Errs W:=by
 have hrow:∀ u,prog.typeName? 3 u=some "*errors.errorString"→u=316:=fun u h=>typeName_ptr_named (nm:="errors.errorString") (by rw[show "*"++"errors.errorString"="*errors.errorString" by decide];kernel_rfl) (by kernel_rfl) (by decide) u (by rw[show "*"++"errors.errorString"="*errors.errorString" by decide];exact h)
 have gR:prog.globalNamed "strconv.ErrRange"=some 6:=by kernel_rfl
 have gS:prog.globalNamed "strconv.ErrSyntax"=some 5:=by kernel_rfl
 obtain⟨a0,s0,hv0,-,-,-⟩:=laid_sentinel h gR (ti:=202) (by kernel_rfl) underlying202 hrow underlying316 underlying318 rfl rfl underlying9 (by kernel_rfl) (by kernel_rfl)
 obtain⟨a1,s1,hv1,-,-,-⟩:=laid_sentinel h.tail gS (ti:=202) (by kernel_rfl) underlying202 hrow underlying316 underlying318 rfl rfl underlying9 (by kernel_rfl) (by kernel_rfl)
 exact⟨⟨_,_,by have h0:=World.var?_cell gS hv1 0;simpa using h0⟩,⟨_,_,by have h0:=World.var?_cell gR hv0 0;simpa using h0⟩⟩
end
section
open _root_.Go.Proofs.Tryz
set_option maxRecDepth 100000
open Go.ChangeShapes Go.WideShapes Go.ChangeAt Go.RowKit Go.Lib Go.Shelf
def tabsLaid8:List (String × DataW Unit):=[("math/bits.deBruijn32tab",Rows.laid_math_bits_deBruijn32tab),("math/bits.deBruijn64tab",Rows.laid_math_bits_deBruijn64tab),("internal/strconv.uint64pow10",Rows.laid_internal_strconv_uint64pow10),("unicode/utf8.acceptRanges",Rows.laid_unicode_utf8_acceptRanges),("strconv.ErrRange",Rows.laid_strconv_ErrRange),("strconv.ErrSyntax",Rows.laid_strconv_ErrSyntax),("palaver/parse.forms",Rows.laid_palaver_parse_forms),("unicode/utf8.first",Rows.laid_unicode_utf8_first)]
def formD (f:Int × List UInt8 × Int × Int):DataW Unit:=.agg [.lit (.int .i64 f.1),.lit (.string f.2.1),.lit (.int .i64 f.2.2.1),.lit (.int .i64 f.2.2.2)]
def formV4 (f:Int × List UInt8 × Int × Int):List Value:=[.int .i64 f.1,.string ⟨f.2.1.toArray⟩,.int .i64 f.2.2.1,.int .i64 f.2.2.2]
theorem forms_eq:(Rows.laid_palaver_parse_forms:DataW Unit)=.agg (formsT.map formD):=by kernel_rfl
section
variable {H:Type} {enc:TypeId × Value→H} {w:World} {base:Nat} {sp:Nat→Bool} {held:Bool}
theorem four_of {cs:List Value} {a b c d:Value} (hl:cs.length=4) (h0:(cs.drop 0).take 1=[a]) (h1:(cs.drop 1).take 1=[b]) (h2:(cs.drop 2).take 1=[c]) (h3:(cs.drop 3).take 1=[d]):cs=[a,b,c,d]:=by
 match cs,hl with
 | [x0,x1,x2,x3],_ =>
  simp at h0 h1 h2 h3
  subst h0 h1 h2 h3;rfl
theorem trod_form {fuel:Nat} {cs:List Value} {f:Int × List UInt8 × Int × Int} {p:List MemPlace} (h:DataW.trod (fun _=>()) prog w base sp held fuel 131 cs=some (formD f,p)):cs=formV4 f:=by
 obtain⟨xs,n,-,hx,hl,hxl,hf⟩:=DataW.trod_struct underlying131 h
 have hl4:cs.length=4:=hl.trans (by kernel_rfl)
 have hx1:=congrArg Prod.fst hx
 unfold formD at hx1
 dsimp only at hx1
 injection hx1 with hx1
 match xs,hx1,hf with
 | [y0,y1,y2,y3],hx1,hf =>
  simp only[List.map_cons,List.map_nil,List.cons.injEq,and_true] at hx1
  obtain⟨e0,e1,e2,e3⟩:=hx1
  have g0:DataW.trod (fun _=>()) prog w base sp held n 3 ((cs.drop 0).take (prog.cellsOf 3))=some y0:=hf 0 _ rfl
  have g1:DataW.trod (fun _=>()) prog w base sp held n 9 ((cs.drop 1).take (prog.cellsOf 9))=some y1:=hf 1 _ rfl
  have g2:DataW.trod (fun _=>()) prog w base sp held n 3 ((cs.drop 2).take (prog.cellsOf 3))=some y2:=hf 2 _ rfl
  have g3:DataW.trod (fun _=>()) prog w base sp held n 3 ((cs.drop 3).take (prog.cellsOf 3))=some y3:=hf 3 _ rfl
  rw[show prog.cellsOf 3=1 by kernel_rfl] at g0 g2 g3
  rw[show prog.cellsOf 9=1 by kernel_rfl] at g1
  obtain⟨k0,c0,z0,-⟩:=DataW.trod_int underlying3 g0
  obtain⟨k1,c1,z1,-⟩:=DataW.trod_string underlying9 g1
  obtain⟨k2,c2,z2,-⟩:=DataW.trod_int underlying3 g2
  obtain⟨k3,c3,z3,-⟩:=DataW.trod_int underlying3 g3
  rw[z0] at e0
  rw[z1] at e1
  rw[z2] at e2
  rw[z3] at e3
  injection e0 with e0;injection e0 with _ e0
  injection e1 with e1;injection e1 with e1
  injection e2 with e2;injection e2 with _ e2
  injection e3 with e3;injection e3 with _ e3
  rw[four_of hl4 c0 c1 c2 c3,formV4,e0,e1,e2,e3]
theorem drop_split {α:Type} (n:Nat):∀ (cs:List α) (m:Nat),cs.length=m * n→cs=((List.range m).map fun i=>(cs.drop (i * n)).take n).flatten
 | cs,0,h=>by
  rw[Nat.zero_mul] at h
  rw[List.length_eq_zero_iff.1 h];rfl
 | cs,m+1,h=>by
  rw[List.range_succ_eq_map,List.map_cons,List.flatten_cons,List.map_map,Nat.zero_mul,List.drop_zero]
  have hd:(cs.drop n).length=m * n:=by rw[List.length_drop,h,Nat.succ_mul];omega
  have ih:=drop_split n (cs.drop n) m hd
  conv=>lhs;rw[← List.take_append_drop n cs,ih]
  congr 2
  refine List.map_congr_left fun i _=>?_
  simp only[Function.comp,List.drop_drop]
  congr 2
  rw[Nat.succ_mul];omega
end
theorem forms_of (l:List (String × DataW Unit)) {W:World} (h:laidMet prog l W) (h1:("palaver/parse.forms",(Rows.laid_palaver_parse_forms:DataW Unit)) ∈ l):Forms W:=by
 obtain⟨g,t,cs,fuel,p,hg,hty,hv,hd⟩:=Lib.laidMet.reads h h1
 have eg:g=0:=Option.some.inj (hg.symm.trans (show prog.globalNamed "palaver/parse.forms"=some 0 by kernel_rfl))
 subst eg
 have et:t=209:=Option.some.inj (hty.symm.trans (show (prog.globals[0]?).map (·.type)=some 209 by kernel_rfl))
 subst et
 rw[forms_eq] at hd
 obtain⟨xs,m,-,hx,hl,hxl,hf⟩:=DataW.trod_array underlying209 hd
 have hl2:cs.toList.length=19 * 4:=hl.trans (by kernel_rfl)
 have hx1:=congrArg Prod.fst hx
 dsimp only at hx1
 injection hx1 with hx1
 have hcs:cs.toList=formCells.toList:=by
  rw[drop_split 4 cs.toList 19 hl2]
  have e:formCells.toList=((List.range 19).map fun i=>formV4 (formsT.getD i (0,[],0,0))).flatten:=by kernel_rfl
  rw[e]
  congr 1
  refine List.map_congr_left fun i hi=>?_
  have hi:i<19:=List.mem_range.1 hi
  have h2:=hf i hi
  rw[show prog.cellsOf 131=4 by kernel_rfl] at h2
  obtain⟨x,hxi⟩:∃ x,xs[i]?=some x:=⟨xs[i]'(by omega),List.getElem?_eq_getElem (by omega)⟩
  have h3:(xs.map (·.1))[i]?=(formsT.map formD)[i]?:=by rw[hx1]
  rw[List.getElem?_map,List.getElem?_map,hxi] at h3
  have hfl:formsT.length=19:=rfl
  have h4:formsT[i]?=some (formsT.getD i (0,[],0,0)):=by
   rw[List.getD_eq_getElem?_getD,List.getElem?_eq_getElem (by omega)];rfl
  rw[h4] at h3
  simp only[Option.map_some,Option.some.injEq] at h3
  rw[hxi] at h2
  obtain⟨x1,x2⟩:=x
  dsimp only at h3
  subst h3
  exact trod_form h2
 have hcs2:cs=formCells:=by
  rw[← Array.toArray_toList (xs:=cs),hcs,Array.toArray_toList]
 unfold World.var? at hv
 rw[hg] at hv
 simp only[Option.bind_some] at hv
 split at hv
 ·rename_i c1 t1 f1 hh
  injection hv with hv
  subst hv
  exact⟨t1,f1,by rw[hh,hcs2]⟩
 ·cases hv
theorem pow_eq:(Rows.laid_internal_strconv_uint64pow10:DataW Unit)=tabData .u64 pow10Tab:=by kernel_rfl
theorem envP_of_laid {W:World} (h:laidMetH prog tabsLaid8 W):EnvP W:=by
 rw[MakeChecks.laidMetH_plain _ _ _ (by kernel_rfl)] at h
 refine⟨⟨tabs_of _ h (by simp[tabsLaid8]) (by simp[tabsLaid8]),Errs.of _ (laidMet.tail (laidMet.tail (laidMet.tail (laidMet.tail h))))⟩,?_,forms_of _ h (by simp[tabsLaid8])⟩
 obtain⟨g,t,cs,fuel,p,hg,hty,hv,hd⟩:=Lib.laidMet.reads h (n:="internal/strconv.uint64pow10") (d:=(Rows.laid_internal_strconv_uint64pow10:DataW Unit)) (by simp[tabsLaid8])
 rw[pow_eq] at hd
 have eg:g=3:=Option.some.inj (hg.symm.trans (show prog.globalNamed "internal/strconv.uint64pow10"=some 3 by kernel_rfl))
 subst eg
 have et:t=288:=Option.some.inj (hty.symm.trans (show (prog.globals[3]?).map (·.type)=some 288 by kernel_rfl))
 subst et
 unfold TabIs
 rw[hv,← cells_of_tab (P:=prog) (t:=288) (e:=134) (n:=20) underlying288 underlying134 (by kernel_rfl) (by kernel_rfl) hd]
theorem start_met8 (os:Os) (args:Array Value):laidMetH prog tabsLaid8 ((World.laidAll prog os tabsLaid8).forCall (fun _ _=>0) ⟨#[],args,[]⟩).memory:=by
 rw[MakeChecks.laidMetH_plain _ _ _ (by kernel_rfl)];exact laidMet_laidAll _ (by kernel_rfl) (by kernel_rfl)
end
end Go.Proofs.YtbbblmedoagncaaGreatDoor
